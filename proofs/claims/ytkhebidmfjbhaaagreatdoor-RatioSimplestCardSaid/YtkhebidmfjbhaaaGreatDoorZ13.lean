/-
  Number.DivMod: the floored quotient and the remainder.
  What whole.DivMod returns.
  Lehmer's steps: what the factors of foresee keep.
  What whole.foresee returns.
  What natural.top and blend.abs return.
-/
import Derived.Test.YtkhebidmfjbhaaaGreatDoorZ05
import Derived.Test.YtkhebidmfjbhaaaGreatDoorZ09
import Derived.Test.YtkhebidmfjbhaaaGreatDoorZ10
import Derived.Test.YtkhebidmfjbhaaaGreatDoorZ11
import Derived.Test.YtkhebidmfjbhaaaGreatDoorZ12
import Derived.Test.YtkhebidmfjbhaaaGreatDoorZ01
import Derived.Test.YtkhebidmfjbhaaaGreatDoorZ08
import Derived.Test.YtkhebidmfjbhaaaGreatDoorZ04
namespace Go.Proofs.YtkhebidmfjbhaaaGreatDoor
open Go.RowKit

theorem mul_facts (y n : Int) : y * (-n) = -(y * n) ∧ -y * n = -(y * n) ∧ y * (-n - 1) = -(y * n) - y := by
  refine ⟨Int.mul_neg _ _, Int.neg_mul _ _, ?_⟩
  rw [Int.mul_sub, Int.mul_neg]
  omega
theorem DivModN_any (p v q u : Value) (b c : Bool) (x y : Int) (w : World) (hu : NatV w p v x.natAbs) (hv : NatV w q u y.natAbs) (hb : b = decide (x < 0)) (hc : c = decide (y < 0)) (hy : y ≠ 0) (hx9 : nl x.natAbs ≤ 40000) (hy9 : nl y.natAbs ≤ 40000) :
    Calls Tryz.prog 152 #[.agg #[p, v, .bool b], .agg #[q, u, .bool c]] w (GivesZZ (x.fdiv y) (x.fmod y) w) := by
  have hY : 0 < (y.natAbs : Int) := by omega
  have hE : (y.natAbs : Int) * ((x.natAbs : Int) / y.natAbs) + (x.natAbs : Int) % y.natAbs = x.natAbs := Int.mul_ediv_add_emod _ _
  have h0 := Int.emod_nonneg (x.natAbs : Int) (show (y.natAbs : Int) ≠ 0 by omega)
  have h1 := Int.emod_lt_of_pos (x.natAbs : Int) hY
  obtain ⟨n, hn⟩ : ∃ n, (x.natAbs : Int) / y.natAbs = n := ⟨_, rfl⟩
  obtain ⟨m, hm⟩ : ∃ m, (x.natAbs : Int) % y.natAbs = m := ⟨_, rfl⟩
  rw [hn, hm] at hE
  rw [hm] at h0 h1
  have hf := mul_facts y n
  have hf2 := mul_facts y (n + 1)
  have hs : y * (n + 1) = y * n + y := by rw [Int.mul_add, Int.mul_one]
  by_cases hbc : b = c
  · subst hbc
    have key : n = x.fdiv y ∧ (if b = true then -m else m) = x.fmod y := by
      cases b with
      | true =>
        have p1 := of_decide_eq_true hb.symm
        have p2 := of_decide_eq_true hc.symm
        rw [show (y.natAbs : Int) = -y by omega] at hE h1
        rw [if_pos rfl]
        exact fl_neg p2 (by omega) (by omega) (by omega)
      | false =>
        have p1 := of_decide_eq_false hb.symm
        have p2 := of_decide_eq_false hc.symm
        rw [show (y.natAbs : Int) = y by omega] at hE h1
        rw [if_neg (by decide)]
        exact fl_pos (by omega) (by omega) (by omega) (by omega)
    by_cases hm0 : m = 0
    · exact dm_eq0 p v q u b _ _ n m _ _ w hu hv hY hx9 hy9 hn hm hm0 key.1 key.2
    · exact dm_eq1 p v q u b _ _ n m _ _ w hu hv hY hx9 hy9 hn hm hm0 key.1 key.2
  · have hcb : c = !b := by cases b <;> cases c <;> simp_all
    subst hcb
    by_cases hm0 : m = 0
    · have key : -n = x.fdiv y ∧ (if b = true then -m else m) = x.fmod y := by
        cases b with
        | true =>
          have p1 := of_decide_eq_true hb.symm
          have p2 := of_decide_eq_false hc.symm
          rw [show (y.natAbs : Int) = y by omega] at hE h1
          rw [if_pos rfl]
          exact fl_pos (by omega) (by omega) (by omega) (by omega)
        | false =>
          have p1 := of_decide_eq_false hb.symm
          have p2 := of_decide_eq_true hc.symm
          rw [show (y.natAbs : Int) = -y by omega] at hE h1
          rw [if_neg (by decide)]
          exact fl_neg (by omega) (by omega) (by omega) (by omega)
      exact dm_ne0 p v q u b _ rfl _ _ n m _ _ w hu hv hY hx9 hy9 hn hm hm0 key.1 key.2
    · have key : -n - 1 = x.fdiv y ∧ (if b = true then -m else m) + (if (!b) = true then -(y.natAbs : Int) else (y.natAbs : Int)) = x.fmod y := by
        cases b with
        | true =>
          have p1 := of_decide_eq_true hb.symm
          have p2 := of_decide_eq_false hc.symm
          rw [show (y.natAbs : Int) = y by omega] at hE h1 ⊢
          simp only [Bool.not_true, Bool.false_eq_true, if_false, if_true]
          exact fl_pos (by omega) (by omega) (by omega) (by omega)
        | false =>
          have p1 := of_decide_eq_false hb.symm
          have p2 := of_decide_eq_true hc.symm
          rw [show (y.natAbs : Int) = -y by omega] at hE h1 ⊢
          simp only [Bool.not_false, Bool.false_eq_true, if_false, if_true]
          exact fl_neg (by omega) (by omega) (by omega) (by omega)
      exact dm_ne1 p v q u b _ rfl _ _ n m _ _ w hu hv hY hx9 hy9 hn hm hm0 key.1 key.2
end Go.Proofs.YtkhebidmfjbhaaaGreatDoor
namespace Go.Proofs.YtkhebidmfjbhaaaGreatDoor
open Go.RowKit

def GivesQr (q r : ByteArray) (n : Int) (w : World) (e : Ending) (w' : World) : Prop := e = .returned (.tuple #[.string q, .string r, .int .i64 n]) ∧ Below w.heap.size w w'
theorem fmod_abs {x y : Int} (hy : y ≠ 0) : (x.fmod y).natAbs < y.natAbs := by
  rcases Int.lt_or_lt_of_ne hy with h | h
  · have h1 := Int.fmod_nonneg_of_pos (-x) (show 0 < -y by omega)
    have h2 := Int.fmod_lt_of_pos (-x) (show 0 < -y by omega)
    rw [Int.neg_fmod_neg] at h1 h2
    omega
  · have h1 := Int.fmod_nonneg_of_pos x h
    have h2 := Int.fmod_lt_of_pos x h
    omega
theorem fdiv_abs0 {x y : Int} (hy : 0 < y) : (x.fdiv y).natAbs ≤ x.natAbs := by
  rw [Int.fdiv_eq_ediv_of_nonneg x (Int.le_of_lt hy)]
  by_cases h : 0 ≤ x
  · have h1 := Int.ediv_nonneg h (Int.le_of_lt hy)
    have h2 := Int.ediv_le_self y h
    omega
  · have h1 : x / y < 0 := Int.ediv_neg_of_neg_of_pos (by omega) hy
    have h2 : x ≤ x / y := (Int.le_ediv_iff_mul_le hy).2 (by
      have := Int.mul_nonneg (show 0 ≤ -x by omega) (show 0 ≤ y - 1 by omega)
      rw [Int.mul_sub, Int.neg_mul] at this
      omega)
    omega
theorem fdiv_abs {x y : Int} (hy : y ≠ 0) : (x.fdiv y).natAbs ≤ x.natAbs := by
  rcases Int.lt_or_lt_of_ne hy with h | h
  · have := fdiv_abs0 (x := -x) (y := -y) (by omega)
    rw [Int.neg_fdiv_neg, Int.natAbs_neg] at this
    exact this
  · exact fdiv_abs0 h
theorem dn_abs_le {x y : Int} (h : x.natAbs ≤ y.natAbs) : dn x ≤ dn y := by
  have := dn_mono (x := (x.natAbs : Int)) (y := (y.natAbs : Int)) (by omega) (by omega)
  rwa [dn_abs, dn_abs] at this
theorem text_yes (p v : Value) (z : Int) (b : Bool) (w : World) (tb : Tb w) (hv : NatV w p v z.natAbs) (hb : b = decide (z < 0)) (hd : dn z ≤ 1000) :
    Calls Tryz.prog 136 #[.agg #[p, v, .bool b]] w fun e w' => e = .returned (.tuple #[.string (tx z), .int .i64 0]) ∧ Below w.heap.size w w' := by
  refine (text_any p v z b w tb hv hb).mono ?_
  rintro e w' ⟨rfl, h⟩
  exact ⟨by rw [if_pos hd, if_pos hd], h⟩
set_option maxHeartbeats 1000000 in
theorem DivMod_tx (x y : Int) (w : World) (tb : Tb w) (hx : dn x ≤ 1000) (hy : dn y ≤ 1000) (h0 : y ≠ 0) :
    Calls Tryz.prog 106 #[.string (tx x), .string (tx y)] w (GivesQr (tx (x.fdiv y)) (tx (x.fmod y)) 0 w) := by
  have hx1 := nl_112 (x := (x.natAbs : Int)) (by omega) (by rw [dn_abs]; exact hx)
  have hy1 := nl_112 (x := (y.natAbs : Int)) (by omega) (by rw [dn_abs]; exact hy)
  have hq1 : dn (x.fdiv y) ≤ 1000 := Nat.le_trans (dn_abs_le (fdiv_abs h0)) hx
  have hr1 : dn (x.fmod y) ≤ 1000 := Nat.le_trans (dn_abs_le (Nat.le_of_lt (fmod_abs h0))) hy
  have HP1 := Lib.hid (parse_tx x w hx)
  have HP2 := Lib.hid (fun W => parse_tx y W hy)
  obtain ⟨bx, hbx⟩ : ∃ bx, bx = decide (x < 0) := ⟨_, rfl⟩
  obtain ⟨by', hby⟩ : ∃ by', by' = decide (y < 0) := ⟨_, rfl⟩
  obtain ⟨X, hX⟩ : ∃ X, X = tx x := ⟨_, rfl⟩
  obtain ⟨Y, hY⟩ : ∃ Y, Y = tx y := ⟨_, rfl⟩
  obtain ⟨q, hq⟩ : ∃ q, q = x.fdiv y := ⟨_, rfl⟩
  obtain ⟨r, hr⟩ : ∃ r, r = x.fmod y := ⟨_, rfl⟩
  have OP : Hid (∀ W p v q' u, NatV W p v x.natAbs → NatV W q' u y.natAbs → Calls Tryz.prog 152 #[.agg #[p, v, .bool bx], .agg #[q', u, .bool by']] W (GivesZZ q r W)) := fun W p v q' u hu hv => by rw [hq, hr]; exact DivModN_any p v q' u bx by' x y W hu hv hbx hby h0 (by omega) (by omega)
  have ZD := Lib.hid (fun W p v (hn : NatV W p v y.natAbs) => isZero_false p v y.natAbs W hn (by omega))
  rw [← hq] at hq1
  rw [← hr] at hr1
  have TQ := Lib.hid (fun W p v s (ht : Tb W) (hs : s = decide (q < 0)) (hn : NatV W p v q.natAbs) => text_yes p v q s W ht hn hs hq1)
  have TR := Lib.hid (fun W p v s (ht : Tb W) (hs : s = decide (r < 0)) (hn : NatV W p v r.natAbs) => text_yes p v r s W ht hn hs hr1)
  obtain ⟨Q, hQ⟩ : ∃ Q, Q = tx q := ⟨_, rfl⟩
  obtain ⟨R, hR⟩ : ∃ R, R = tx r := ⟨_, rfl⟩
  rw [← hQ] at TQ
  rw [← hR] at TR
  rw [← hX] at HP1 ⊢
  rw [← hY] at HP2 ⊢
  rw [← hq, ← hr, ← hQ, ← hR]
  have TB := Lib.hid tb
  have HBX := Lib.hid hbx
  have HBY := Lib.hid hby
  clear hbx hby hX hY hx1 hy1 hq hr hq1 hr1 hQ hR tb
  go_enter Tryz.func106, Tryz.ntmps106
  go_wp2_with fail
  refine HP1.out.mono ?_
  rintro e w1 ⟨p1, v1, rfl, hv1, hb1⟩
  rw [← HBX.out]
  obtain ⟨t1, a1, n1, rfl, rfl, -, -, -, -, -, -⟩ := hv1.form
  have N1 := Lib.hid (BoxN.new (b := bx) 74 hv1)
  have hbb1 := hb1.alloc hb1.size (.cells #[.int .u64 t1, .slice a1 n1 n1, .bool bx] 74)
  have B1 := Lib.hid hbb1
  obtain ⟨W1, hW1⟩ : ∃ W1, W1 = w1.alloc (.cells #[.int .u64 t1, .slice a1 n1 n1, .bool bx] 74) := ⟨_, rfl⟩
  obtain ⟨K1, hK1⟩ : ∃ K1, K1 = w1.heap.size := ⟨_, rfl⟩
  rw [← hW1, ← hK1] at N1
  rw [← hW1] at B1
  have HW1 := Lib.hid hW1
  have HK1 := Lib.hid hK1
  clear hv1 hb1 hbb1 hW1 hK1
  go_wp2_with fail
  rw [← HW1.out, ← HK1.out]
  clear HW1 HK1
  refine (HP2.out W1).mono ?_
  rintro e w2 ⟨p2, v2, rfl, hv2, hb2⟩
  rw [← HBY.out]
  obtain ⟨t2, a2, n2, rfl, rfl, -, -, -, -, -, -⟩ := hv2.form
  have N2 := Lib.hid (BoxN.new (b := by') 74 hv2)
  have hbb2 := hb2.alloc hb2.size (.cells #[.int .u64 t2, .slice a2 n2 n2, .bool by'] 74)
  have B2 := Lib.hid (B1.out.trans (hbb2.mono B1.out.size))
  replace N1 := Lib.hid (N1.out.below hbb2)
  obtain ⟨W2, hW2⟩ : ∃ W2, W2 = w2.alloc (.cells #[.int .u64 t2, .slice a2 n2 n2, .bool by'] 74) := ⟨_, rfl⟩
  obtain ⟨K2, hK2⟩ : ∃ K2, K2 = w2.heap.size := ⟨_, rfl⟩
  rw [← hW2, ← hK2] at N2
  rw [← hW2] at B2 N1
  have HW2 := Lib.hid hW2
  have HK2 := Lib.hid hK2
  clear hv2 hb2 hbb2 hW2 hK2
  have hd20 := N2.out.c0
  have hd21 := N2.out.c1
  have hd22 := N2.out.c2
  rw [HW2.out, HK2.out] at hd20 hd21 hd22
  go_wp2_with fail
  rw [← HW2.out, ← HK2.out]
  clear hd20 hd21 hd22 HW2 HK2
  refine (ZD.out W2 _ _ N2.out.n).mono ?_
  rintro e w3 ⟨rfl, rfl⟩
  have hb3 := (alloc_below W2 (.cells #[.int .u64 t2, .slice a2 n2 n2] 72)).trans ((alloc_below _ (.cells #[.int .u64 t2, .slice a2 n2 n2] 72)).mono (by simp))
  have B3 := Lib.hid (B2.out.trans (hb3.mono B2.out.size))
  replace N1 := Lib.hid (N1.out.below hb3)
  replace N2 := Lib.hid (N2.out.below hb3)
  clear hb3
  generalize (W2.alloc (.cells #[.int .u64 t2, .slice a2 n2 n2] 72)).alloc (.cells #[.int .u64 t2, .slice a2 n2 n2] 72) = W3 at *
  have hd10 := N1.out.c0
  have hd11 := N1.out.c1
  have hd12 := N1.out.c2
  have hd20 := N2.out.c0
  have hd21 := N2.out.c1
  have hd22 := N2.out.c2
  go_wp2_with fail
  clear hd10 hd11 hd12 hd20 hd21 hd22
  refine (OP.out W3 _ _ _ _ N1.out.n N2.out.n).mono ?_
  rintro e w4 ⟨p4, v4, p5, v5, rfl, hv4, hv5, hb4⟩
  obtain ⟨s4, hs4⟩ : ∃ s4, s4 = decide (q < 0) := ⟨_, rfl⟩
  obtain ⟨s5, hs5⟩ : ∃ s5, s5 = decide (r < 0) := ⟨_, rfl⟩
  rw [← hs4, ← hs5]
  have HS4 := Lib.hid hs4
  have HS5 := Lib.hid hs5
  obtain ⟨t4, a4, n4, rfl, rfl, -, -, -, -, -, -⟩ := hv4.form
  obtain ⟨t5, a5, n5, rfl, rfl, -, -, -, -, -, -⟩ := hv5.form
  have hal1 := alloc_below w4 (.cells #[.int .u64 t4, .slice a4 n4 n4, .bool s4] 74)
  have hal2 := alloc_below (w4.alloc (.cells #[.int .u64 t4, .slice a4 n4 n4, .bool s4] 74)) (.cells #[.int .u64 t5, .slice a5 n5 n5, .bool s5] 74)
  have N4 := Lib.hid ((BoxN.new (b := s4) 74 hv4).below hal2)
  have hv5' := hv5.below hal1
  have N5 := Lib.hid (BoxN.new (b := s5) 74 hv5')
  have B4 := Lib.hid ((B3.out.trans (hb4.mono B3.out.size)).trans ((hal1.trans (hal2.mono (by simp))).mono (by have := hb4.size; have := B3.out.size; omega)))
  have hsz : (w4.alloc (.cells #[.int .u64 t4, .slice a4 n4 n4, .bool s4] 74)).heap.size = w4.heap.size + 1 := by simp
  rw [hsz] at N5
  clear hv4 hv5 hv5' hb4 hs4 hs5 hal1 hal2 hsz N1 N2
  have hd40 := N4.out.c0
  have hd41 := N4.out.c1
  have hd42 := N4.out.c2
  go_wp2_with fail
  clear hd40 hd41 hd42
  obtain ⟨W5, hW5⟩ : ∃ W5, W5 = (w4.alloc (.cells #[.int .u64 t4, .slice a4 n4 n4, .bool s4] 74)).alloc (.cells #[.int .u64 t5, .slice a5 n5 n5, .bool s5] 74) := ⟨_, rfl⟩
  rw [← hW5] at N4 N5 B4 ⊢
  clear hW5
  refine (TQ.out W5 _ _ s4 (TB.out.below B4.out) HS4.out N4.out.n).mono ?_
  rintro e w6 ⟨rfl, hb6⟩
  have B6 := Lib.hid (B4.out.trans (hb6.mono B4.out.size))
  replace N5 := Lib.hid (N5.out.below hb6)
  clear hb6
  have hd50 := N5.out.c0
  have hd51 := N5.out.c1
  have hd52 := N5.out.c2
  go_wp2_with fail
  clear hd50 hd51 hd52
  refine (TR.out w6 _ _ s5 (TB.out.below B6.out) HS5.out N5.out.n).mono ?_
  rintro e w7 ⟨rfl, hb7⟩
  have B7 := Lib.hid (B6.out.trans (hb7.mono B6.out.size))
  clear hb7
  go_wp2
  go_ret3
  exact ⟨rfl, B7.out⟩
end Go.Proofs.YtkhebidmfjbhaaaGreatDoor
namespace Go.Proofs.YtkhebidmfjbhaaaGreatDoor
open Go.RowKit

/-- After an even number of steps (an odd one: with a and b exchanged). -/
structure Lh (x0 y0 va vb wa wb x y : Int) : Prop where
  ex : x = va * x0 + vb * y0
  ey : y = wa * x0 + wb * y0
  det : va * wb - vb * wa = 1
  va1 : 1 ≤ va
  vb0 : vb ≤ 0
  wa0 : wa ≤ 0
  wb1 : 1 ≤ wb
  x0' : 0 ≤ x
  y0' : 0 ≤ y
  xb : 0 ≤ x + vb
  vaM : va < 1000000000
  vbM : -1000000000 < vb
  waM : -1000000000 < wa
  wbM : wb < 1000000000
theorem Lh.start {x0 y0 : Int} (hx : 0 ≤ x0) (hy : 0 ≤ y0) : Lh x0 y0 1 0 0 1 x0 y0 :=
  ⟨by omega, by omega, by decide, by decide, by decide, by decide, by decide, hx, hy, by omega, by decide, by decide, by decide, by decide⟩
theorem sq_lt {a b : Int} (ha : 0 ≤ a) (h : a * b < 1000000000000000000) (hab : a ≤ b) : a < 1000000000 := by
  rcases Int.lt_or_le a 1000000000 with h1 | h1
  · exact h1
  · have h2 := Int.mul_le_mul h1 (Int.le_trans h1 hab) (by omega) ha
    omega
/-- What a quotient gives. -/
theorem quo_bd {a b q : Int} (hb : 0 < b) (h : a / b = q) : q * b ≤ a ∧ a < q * b + b := by
  have h1 := Int.mul_ediv_add_emod a b
  have h2 := Int.emod_nonneg a (show b ≠ 0 by omega)
  have h3 := Int.emod_lt_of_pos a hb
  rw [h, Int.mul_comm] at h1
  omega
theorem Lh.next {x0 y0 va vb wa wb x y q : Int} (h : Lh x0 y0 va vb wa wb x y) (hx9 : x0 < 1000000000000000000) (hy9 : y0 < 1000000000000000000)
    (ha : 0 < y + wa) (hb : 0 < y + wb) (qa : (x + va) / (y + wa) = q) (qb : (x + vb) / (y + wb) = q) :
    Lh y0 x0 wb wa (vb - q * wb) (va - q * wa) y (x - q * y) ∧ x - q * y < y ∧ 0 ≤ q ∧ q ≤ x + va := by
  obtain ⟨ex, ey, det, va1, vb0, wa0, wb1, x0', y0', xb, vaM, vbM, waM, wbM⟩ := h
  obtain ⟨a1, a2⟩ := quo_bd ha qa
  obtain ⟨b1, b2⟩ := quo_bd hb qb
  have hq : 0 ≤ q := by rw [← qa]; exact Int.ediv_nonneg (by omega) (by omega)
  have hqx : q ≤ x + va := by rw [← qa]; exact Int.ediv_le_self _ (by omega)
  have k1 : 0 ≤ q * (-wa) := Int.mul_nonneg hq (by omega)
  have k2 : 0 ≤ q * wb := Int.mul_nonneg hq (by omega)
  rw [Int.mul_neg] at k1
  rw [Int.mul_add] at a1 a2 b1 b2
  have w1 : 1 ≤ va - q * wa := by omega
  have w0 : vb - q * wb ≤ 0 := by omega
  have y1 : 0 ≤ x - q * y := by omega
  have y2 : x - q * y < y := by omega
  have n1 : va - q * wa ≤ y := by omega
  have n2 : -(vb - q * wb) ≤ y := by omega
  have i1 : y * (va - q * wa) - (x - q * y) * wa = y0 := by grind
  have i2 : (x - q * y) * wb - y * (vb - q * wb) = x0 := by grind
  have j1 : 0 ≤ (x - q * y) * (-wa) := Int.mul_nonneg y1 (by omega)
  have j2 : 0 ≤ (x - q * y) * wb := Int.mul_nonneg y1 (by omega)
  rw [Int.mul_neg] at j1
  have m1 := sq_lt (show 0 ≤ va - q * wa by omega) (b := y) (by rw [Int.mul_comm]; omega) n1
  have m2 := sq_lt (show 0 ≤ -(vb - q * wb) by omega) (b := y) (by rw [Int.mul_comm, Int.mul_neg]; omega) n2
  exact ⟨⟨by grind, by grind, by grind, wb1, wa0, w0, w1, y0', y1, by omega, wbM, waM, by omega, m1⟩, y2, hq, hqx⟩
/-- The next remainder lies below the last one, whatever the other limbs are. -/
theorem Lh.tail {x0 y0 va vb wa wb x y q : Int} (h : Lh x0 y0 va vb wa wb x y) (ha : 0 < y + wa) (hb : 0 < y + wb) (qa : (x + va) / (y + wa) = q) (qb : (x + vb) / (y + wb) = q)
    {P e f : Int} (e0 : 0 ≤ e) (e1 : e < P) (f0 : 0 ≤ f) (f1 : f < P) :
    0 ≤ (va - q * wa) * (x0 * P + e) + (vb - q * wb) * (y0 * P + f) ∧ (va - q * wa) * (x0 * P + e) + (vb - q * wb) * (y0 * P + f) < wa * (x0 * P + e) + wb * (y0 * P + f) := by
  obtain ⟨ex, ey, det, va1, vb0, wa0, wb1, x0', y0', xb, vaM, vbM, waM, wbM⟩ := h
  obtain ⟨a1, a2⟩ := quo_bd ha qa
  obtain ⟨b1, b2⟩ := quo_bd hb qb
  have hq : 0 ≤ q := by rw [← qa]; exact Int.ediv_nonneg (by omega) (by omega)
  have k1 : 0 ≤ q * (-wa) := Int.mul_nonneg hq (by omega)
  have k2 : 0 ≤ q * wb := Int.mul_nonneg hq (by omega)
  rw [Int.mul_neg] at k1
  have t1 := Int.mul_nonneg (show 0 ≤ (x + vb) - q * (y + wb) by omega) (show 0 ≤ P by omega)
  have t2 := Int.mul_nonneg (show 0 ≤ va - q * wa by omega) e0
  have t3 := Int.mul_nonneg (show 0 ≤ q * wb - vb by omega) (show 0 ≤ P - f by omega)
  have u1 := Int.mul_le_mul (show 1 ≤ (y + wa) - ((x + va) - q * (y + wa)) by omega) (show 1 ≤ P by omega) (by omega) (by omega)
  have u2 := Int.mul_nonneg (show 0 ≤ va - q * wa - wa by omega) (show 0 ≤ P - e by omega)
  have u3 := Int.mul_nonneg (show 0 ≤ wb - (vb - q * wb) by omega) f0
  have z1 : (va - q * wa) * (x0 * P + e) + (vb - q * wb) * (y0 * P + f) = ((x + vb) - q * (y + wb)) * P + (va - q * wa) * e + (q * wb - vb) * (P - f) := by grind
  have z2 : wa * (x0 * P + e) + wb * (y0 * P + f) - ((va - q * wa) * (x0 * P + e) + (vb - q * wb) * (y0 * P + f)) = ((y + wa) - ((x + va) - q * (y + wa))) * P + (va - q * wa - wa) * (P - e) + (wb - (vb - q * wb)) * f := by grind
  omega
/-- Factors of determinant 1 or -1 keep the greatest common divisor. -/
theorem gcd_blend {va vb wa wb A B : Int} (h : va * wb - vb * wa = 1 ∨ va * wb - vb * wa = -1) : Int.gcd (va * A + vb * B) (wa * A + wb * B) = Int.gcd A B := by
  apply Nat.dvd_antisymm
  · apply Int.dvd_gcd
    · obtain ⟨s, hs⟩ := Int.gcd_dvd_left (va * A + vb * B) (wa * A + wb * B)
      obtain ⟨t, ht⟩ := Int.gcd_dvd_right (va * A + vb * B) (wa * A + wb * B)
      rcases h with h | h
      · exact ⟨wb * s - vb * t, by grind⟩
      · exact ⟨vb * t - wb * s, by grind⟩
    · obtain ⟨s, hs⟩ := Int.gcd_dvd_left (va * A + vb * B) (wa * A + wb * B)
      obtain ⟨t, ht⟩ := Int.gcd_dvd_right (va * A + vb * B) (wa * A + wb * B)
      rcases h with h | h
      · exact ⟨va * t - wa * s, by grind⟩
      · exact ⟨wa * s - va * t, by grind⟩
  · apply Int.dvd_gcd
    · obtain ⟨s, hs⟩ := Int.gcd_dvd_left A B
      obtain ⟨t, ht⟩ := Int.gcd_dvd_right A B
      exact ⟨va * s + vb * t, by grind⟩
    · obtain ⟨s, hs⟩ := Int.gcd_dvd_left A B
      obtain ⟨t, ht⟩ := Int.gcd_dvd_right A B
      exact ⟨wa * s + wb * t, by grind⟩
end Go.Proofs.YtkhebidmfjbhaaaGreatDoor
namespace Go.Proofs.YtkhebidmfjbhaaaGreatDoor
open Go.RowKit
theorem far2 {w : World} {r k o : Nat} {a b : Value} (h : k ≠ r) : ((w.setCell ⟨r, 0, none⟩ a).setCell ⟨r, 1, none⟩ b).cell? ⟨k, o, none⟩ = w.cell? ⟨k, o, none⟩ := by
  rw [World.cell?_setCell_other _ _ _ _ (by intro e; injection e; omega), World.cell?_setCell_other _ _ _ _ (by intro e; injection e; omega)]
theorem slot_far {w : World} {r k o : Nat} {u a b : Value} (h : Slot w k o u) (hk : k ≠ r) : Slot ((w.setCell ⟨r, 0, none⟩ a).setCell ⟨r, 1, none⟩ b) k o u := ⟨(far2 hk).trans h.1, by rw [World.frozen?_setCell, World.frozen?_setCell]; exact h.2⟩
theorem slot_put0 {w : World} {r : Nat} {u a b : Value} (h : Slot w r 0 u) : Slot ((w.setCell ⟨r, 0, none⟩ a).setCell ⟨r, 1, none⟩ b) r 0 a :=
  ⟨by rw [World.cell?_setCell_other _ _ _ _ (by intro e; injection e; omega)]; exact World.cell?_setCell_same _ _ _ h.1, by rw [World.frozen?_setCell, World.frozen?_setCell]; exact h.2⟩
theorem slot_put1 {w : World} {r : Nat} {u a b : Value} (h : Slot w r 1 u) : Slot ((w.setCell ⟨r, 0, none⟩ a).setCell ⟨r, 1, none⟩ b) r 1 b :=
  ⟨World.cell?_setCell_same _ _ _ (u := u) (by rw [World.cell?_setCell_other _ _ _ _ (by intro e; injection e; omega)]; exact h.1), by rw [World.frozen?_setCell, World.frozen?_setCell]; exact h.2⟩

/-- The state of foresee's loop. -/
def Fs (x0 y0 va vb wa wb x y : Int) : Prop := Lh x0 y0 va vb wa wb x y ∨ Lh y0 x0 vb va wb wa x y
/-- What the blends make of numbers that begin with x0 and y0. -/
def Tp (x0 y0 va vb wa wb : Int) : Prop := ∀ P e f : Int, 0 ≤ e → e < P → 0 ≤ f → f < P → 0 ≤ va * (x0 * P + e) + vb * (y0 * P + f) ∧ 0 ≤ wa * (x0 * P + e) + wb * (y0 * P + f) ∧ wa * (x0 * P + e) + wb * (y0 * P + f) ≤ y0 * P + f ∧ (vb ≠ 0 → wa * (x0 * P + e) + wb * (y0 * P + f) < y0 * P + f)
structure Bl (x0 y0 va vb wa wb : Int) : Prop where
  sgn : (0 ≤ va ∧ vb ≤ 0 ∧ wa ≤ 0 ∧ 0 ≤ wb ∧ va * wb - vb * wa = 1) ∨ (va ≤ 0 ∧ 0 ≤ vb ∧ 0 < wa ∧ wb ≤ 0 ∧ va * wb - vb * wa = -1)
  va9 : -1000000000 < va ∧ va < 1000000000
  vb9 : -1000000000 < vb ∧ vb < 1000000000
  wa9 : -1000000000 < wa ∧ wa < 1000000000
  wb9 : -1000000000 < wb ∧ wb < 1000000000
  tp : Tp x0 y0 va vb wa wb
theorem Fs.facts {x0 y0 va vb wa wb x y : Int} (h : Fs x0 y0 va vb wa wb x y) : 0 ≤ x ∧ 0 ≤ y ∧ 0 ≤ x + va ∧ 0 ≤ x + vb ∧ -1000000000 < va ∧ va < 1000000000 ∧ -1000000000 < vb ∧ vb < 1000000000 ∧ -1000000000 < wa ∧ wa < 1000000000 ∧ -1000000000 < wb ∧ wb < 1000000000 := by
  rcases h with ⟨ex, ey, det, va1, vb0, wa0, wb1, x0', y0', xb, vaM, vbM, waM, wbM⟩ | ⟨ex, ey, det, va1, vb0, wa0, wb1, x0', y0', xb, vaM, vbM, waM, wbM⟩ <;> omega
theorem Fs.next {x0 y0 va vb wa wb x y q : Int} (h : Fs x0 y0 va vb wa wb x y) (hx9 : x0 < 1000000000000000000) (hy9 : y0 < 1000000000000000000)
    (ha : 0 < y + wa) (hb : 0 < y + wb) (qa : (x + va) / (y + wa) = q) (qb : (x + vb) / (y + wb) = q) :
    Fs x0 y0 wa wb (va - q * wa) (vb - q * wb) y (x - q * y) ∧ x - q * y < y := by
  rcases h with h | h
  · obtain ⟨h1, h2, _⟩ := h.next hx9 hy9 ha hb qa qb
    exact ⟨.inr h1, h2⟩
  · obtain ⟨h1, h2, _⟩ := h.next hy9 hx9 hb ha qb qa
    exact ⟨.inl h1, h2⟩
theorem Fs.bl {x0 y0 va vb wa wb x y : Int} (h : Fs x0 y0 va vb wa wb x y) (t : Tp x0 y0 va vb wa wb) : Bl x0 y0 va vb wa wb := by
  obtain ⟨_, _, _, _, f1, f2, f3, f4, f5, f6, f7, f8⟩ := h.facts
  refine ⟨?_, ⟨f1, f2⟩, ⟨f3, f4⟩, ⟨f5, f6⟩, ⟨f7, f8⟩, t⟩
  rcases h with ⟨ex, ey, det, va1, vb0, wa0, wb1, _, _, _, _, _, _, _⟩ | ⟨ex, ey, det, va1, vb0, wa0, wb1, _, _, _, _, _, _, _⟩
  · exact .inl ⟨by omega, vb0, wa0, by omega, det⟩
  · exact .inr ⟨vb0, by omega, by omega, wa0, by grind⟩
theorem Fs.tp {x0 y0 va vb wa wb x y q : Int} (h : Fs x0 y0 va vb wa wb x y) (t : Tp x0 y0 va vb wa wb) (ha : 0 < y + wa) (hb : 0 < y + wb) (qa : (x + va) / (y + wa) = q) (qb : (x + vb) / (y + wb) = q) :
    Tp x0 y0 wa wb (va - q * wa) (vb - q * wb) := by
  intro P e f e0 e1 f0 f1
  obtain ⟨_, t2, t3, _⟩ := t P e f e0 e1 f0 f1
  have key : 0 ≤ (va - q * wa) * (x0 * P + e) + (vb - q * wb) * (y0 * P + f) ∧ (va - q * wa) * (x0 * P + e) + (vb - q * wb) * (y0 * P + f) < wa * (x0 * P + e) + wb * (y0 * P + f) := by
    rcases h with h | h
    · exact h.tail ha hb qa qb e0 e1 f0 f1
    · have := h.tail hb ha qb qa f0 f1 e0 e1
      omega
  exact ⟨t2, key.1, by omega, fun _ => by omega⟩
theorem Tp.start (x0 y0 : Int) (hx : 0 ≤ x0) (hy : 0 ≤ y0) : Tp x0 y0 1 0 0 1 := by
  intro P e f e0 e1 f0 f1
  have h1 := Int.mul_nonneg hx (show 0 ≤ P by omega)
  have h2 := Int.mul_nonneg hy (show 0 ≤ P by omega)
  omega
def GivesF (x0 y0 : Int) (w : World) (e : Ending) (w' : World) : Prop := ∃ va vb wa wb, e = .returned (.tuple #[.agg #[.int .i64 va, .int .i64 vb], .agg #[.int .i64 wa, .int .i64 wb]]) ∧ Bl x0 y0 va vb wa wb ∧ Below w.heap.size w w'
theorem slot2_new (w : World) (u v : Value) (t : TypeId) (r : Nat) (hr : r = w.heap.size) : Slot (w.alloc (.cells #[u, v] t)) r 0 u ∧ Slot (w.alloc (.cells #[u, v] t)) r 1 v :=
  ⟨⟨by rw [World.cell?_alloc_at _ _ _ _ hr]; rfl, by rw [World.frozen?_alloc_at _ _ _ _ hr]⟩, ⟨by rw [World.cell?_alloc_at _ _ _ _ hr]; rfl, by rw [World.frozen?_alloc_at _ _ _ _ hr]⟩⟩
/-- The two boxes of foresee. -/
structure FB (w W : World) (va vb wa wb : Int) : Prop where
  below : Below w.heap.size w W
  size : w.heap.size + 1 < W.heap.size
  a : Slot W w.heap.size 0 (.int .i64 va)
  b : Slot W w.heap.size 1 (.int .i64 vb)
  c : Slot W (w.heap.size + 1) 0 (.int .i64 wa)
  d : Slot W (w.heap.size + 1) 1 (.int .i64 wb)
theorem FB.start (w : World) (va vb wa wb : Int) (t : TypeId) : FB w ((w.alloc (.cells #[.int .i64 va, .int .i64 vb] t)).alloc (.cells #[.int .i64 wa, .int .i64 wb] t)) va vb wa wb := by
  have h1 := alloc_below w (.cells #[.int .i64 va, .int .i64 vb] t)
  have h2 := alloc_below (w.alloc (.cells #[.int .i64 va, .int .i64 vb] t)) (.cells #[.int .i64 wa, .int .i64 wb] t)
  have hz : (w.alloc (.cells #[.int .i64 va, .int .i64 vb] t)).heap.size = w.heap.size + 1 := by simp
  have s1 := slot2_new w (.int .i64 va) (.int .i64 vb) t _ rfl
  have s2 := slot2_new (w.alloc (.cells #[.int .i64 va, .int .i64 vb] t)) (.int .i64 wa) (.int .i64 wb) t _ rfl
  rw [hz] at s2
  exact ⟨h1.trans (h2.mono (by omega)), by simp, s1.1.below h2 (by omega), s1.2.below h2 (by omega), s2.1, s2.2⟩
theorem FB.drew {w W : World} {va vb wa wb : Int} (h : FB w W va vb wa wb) : FB w W.drew va vb wa wb := ⟨h.below.drew, h.size, h.a, h.b, h.c, h.d⟩
theorem FB.put {w W : World} {va vb wa wb : Int} (h : FB w W va vb wa wb) (va' vb' wa' wb' : Int) :
    FB w ((((W.setCell ⟨w.heap.size, 0, none⟩ (.int .i64 va')).setCell ⟨w.heap.size, 1, none⟩ (.int .i64 vb')).setCell ⟨w.heap.size + 1, 0, none⟩ (.int .i64 wa')).setCell ⟨w.heap.size + 1, 1, none⟩ (.int .i64 wb')) va' vb' wa' wb' :=
  ⟨below_set (below_set (below_set (below_set h.below 0 (by omega) _) 1 (by omega) _) 0 (by omega) _) 1 (by omega) _, by have := h.size; simp; omega, slot_far (slot_put0 h.a) (by omega), slot_far (slot_put1 h.b) (by omega), slot_put0 (slot_far h.c (by omega)), slot_put1 (slot_far h.d (by omega))⟩
set_option maxHeartbeats 2000000 in
set_option maxRecDepth 100000 in
theorem foresee_any (x0 y0 : Int) (w : World) (hx : 0 ≤ x0) (hy : 0 ≤ y0) (hx9 : x0 < 1000000000000000000) (hy9 : y0 < 1000000000000000000) :
    Calls Tryz.prog 234 #[.int .i64 x0, .int .i64 y0] w (GivesF x0 y0 w) := by
  have FB0 := Lib.hid (FB.start w 1 0 0 1 210)
  have FS0 := Lib.hid (show Fs x0 y0 1 0 0 1 x0 y0 from .inl (Lh.start hx hy))
  have TP0 := Lib.hid (Tp.start x0 y0 hx hy)
  go_enter Tryz.func234, Tryz.ntmps234
  go_wp2
  generalize (w.alloc (.cells #[.int .i64 1, .int .i64 0] 210)).alloc (.cells #[.int .i64 0, .int .i64 1] 210) = W0 at *
  go_loopw [0, 1] (fun u v wr => ∃ va vb wa wb x y : Int, u = .int .i64 x ∧ v = .int .i64 y ∧ FB w wr va vb wa wb ∧ Fs x0 y0 va vb wa wb x y ∧ Tp x0 y0 va vb wa wb ∧ x < 1000000000000000000 ∧ y < 1000000000000000000) (fun _ v _ => (intOf v).toNat)
  case atStart => exact ⟨1, 0, 0, 1, x0, y0, rfl, rfl, FB0.out, FS0.out, TP0.out, hx9, hy9⟩
  case round =>
    obtain ⟨va, vb, wa, wb, x, y, rfl, rfl, hfb, hfs, htp, hx8, hy8⟩ := hrel
    obtain ⟨g1, g2, g3, g4, g5, g6, g7, g8, g9, g10, g11, g12⟩ := hfs.facts
    have c1 := hfb.a.1
    have c2 := hfb.b.1
    have c3 := hfb.c.1
    have c4 := hfb.d.1
    have d1 := hfb.a.2
    have d2 := hfb.b.2
    have d3 := hfb.c.2
    have d4 := hfb.d.2
    have FBH := Lib.hid hfb
    have FSH := Lib.hid hfs
    have TPH := Lib.hid htp
    clear hfb hfs htp
    by_cases ha : 0 < y + wa
    · by_cases hb : 0 < y + wb
      · obtain ⟨q, hq⟩ : ∃ q, q = (x + va) / (y + wa) := ⟨_, rfl⟩
        obtain ⟨p, hp⟩ : ∃ p, p = (x + vb) / (y + wb) := ⟨_, rfl⟩
        have tq : (x + va).tdiv (y + wa) = q := by rw [hq, Int.tdiv_eq_ediv_of_nonneg g3]
        have tp : (x + vb).tdiv (y + wb) = p := by rw [hp, Int.tdiv_eq_ediv_of_nonneg g4]
        have hq0 : 0 ≤ q := by rw [hq]; exact Int.ediv_nonneg g3 (by omega)
        have hq1 : q ≤ x + va := by rw [hq]; exact Int.ediv_le_self _ g3
        have hp0 : 0 ≤ p := by rw [hp]; exact Int.ediv_nonneg g4 (by omega)
        have hp1 : p ≤ x + vb := by rw [hp]; exact Int.ediv_le_self _ g4
        have hya : (y + wa == 0) = false := beq_eq_false_iff_ne.2 (by omega)
        have hyb : (y + wb == 0) = false := beq_eq_false_iff_ne.2 (by omega)
        by_cases hpq : p = q
        · rw [hpq] at tp hp
          have hbn : (q != q) = false := by simp
          obtain ⟨hnx, hlt⟩ := FSH.out.next hx9 hy9 ha hb hq.symm hp.symm
          have htn := FSH.out.tp TPH.out ha hb hq.symm hp.symm
          obtain ⟨k1, k2, k3, k4, k5, k6, k7, k8, k9, k10, k11, k12⟩ := hnx.facts
          have NX := Lib.hid hnx
          have TN := Lib.hid htn
          have HLT := Lib.hid hlt
          have hqy : 0 ≤ q * y := Int.mul_nonneg hq0 g2
          have m1 : -9223372036854775808 ≤ q * wa := by omega
          have m2 : q * wa ≤ 9223372036854775807 := by omega
          have m3 : -9223372036854775808 ≤ q * wb := by omega
          have m4 : q * wb ≤ 9223372036854775807 := by omega
          clear hnx htn hq hp hpq hlt
          go_wp2
          go_region
          all_goals go_wp2
          all_goals go_roundw
          case rel => exact ⟨wa, wb, va - q * wa, vb - q * wb, y, x - q * y, rfl, rfl, FBH.out.drew.put _ _ _ _, NX.out, TN.out, hy8, by have := HLT.out; omega⟩
          case measure => have := HLT.out; simp [intOf]; omega
        · have hbn : (q != p) = true := bne_iff_ne.2 (fun e => hpq e.symm)
          clear hq hp
          go_wp2
          go_region
          all_goals go_wp2
          have F := (FBH.out.put va vb wa wb).drew
          exact bodyPost_ret (v := .tuple #[.agg #[.int .i64 va, .int .i64 vb], .agg #[.int .i64 wa, .int .i64 wb]]) (by simp [results, Tryz.results234, go_sem, F.a.1, F.b.1, F.c.1, F.d.1]) rfl ⟨va, vb, wa, wb, rfl, FSH.out.bl TPH.out, F.below⟩
      · go_wp2
        go_region
        all_goals go_wp2
        have F := (FBH.out.put va vb wa wb).drew
        exact bodyPost_ret (v := .tuple #[.agg #[.int .i64 va, .int .i64 vb], .agg #[.int .i64 wa, .int .i64 wb]]) (by simp [results, Tryz.results234, go_sem, F.a.1, F.b.1, F.c.1, F.d.1]) rfl ⟨va, vb, wa, wb, rfl, FSH.out.bl TPH.out, F.below⟩
    · go_wp2
      go_region
      all_goals go_wp2
      have F := (FBH.out.put va vb wa wb).drew
      exact bodyPost_ret (v := .tuple #[.agg #[.int .i64 va, .int .i64 vb], .agg #[.int .i64 wa, .int .i64 wb]]) (by simp [results, Tryz.results234, go_sem, F.a.1, F.b.1, F.c.1, F.d.1]) rfl ⟨va, vb, wa, wb, rfl, FSH.out.bl TPH.out, F.below⟩
end Go.Proofs.YtkhebidmfjbhaaaGreatDoor
namespace Go.Proofs.YtkhebidmfjbhaaaGreatDoor
open Go.RowKit

theorem top_two {x : Int} {k : Nat} (h0 : 0 ≤ x) (h1 : x < bp (k + 2)) : lz x (k + 1) * 1000000000 + lz x k = x / bp k := by
  have h2 := div_split x k
  have h3 := div_split x (k + 1)
  rw [show k + 1 + 1 = k + 2 from rfl, div_zero h0 h1] at h3
  omega
set_option maxHeartbeats 800000 in
theorem top_any (p v : Value) (x : Int) (w : World) (hu : NatV w p v x) :
    Calls Tryz.prog 235 #[.agg #[p, v]] w (GivesI (x / bp (nl x - 2)) w) := by
  have hx0 := hu.1
  rcases Nat.lt_or_ge 2 (nl x) with h2 | h2
  · have HW := Lib.hid (fun W (hb : Below w.heap.size w W) => isWord_no _ _ x W (hu.below hb) h2)
    have hlt := nl_lt hx0
    obtain ⟨g, o, n, hn, hn2, hn3, rfl, rfl, hg, hc⟩ := hu.large h2
    rw [← hn] at hlt
    obtain ⟨k, rfl⟩ : ∃ k, n = k + 2 := ⟨n - 2, by omega⟩
    rw [← hn, show k + 2 - 2 = k by omega, ← top_two hx0 hlt]
    have B0 := Lib.hid (((alloc_below w (.cells #[.int .u64 0, .slice (some ⟨g, o, none⟩) (k + 2) (k + 2)] 72)).alloc (by simp) (.cells #[.int .u64 0, .slice (some ⟨g, o, none⟩) (k + 2) (k + 2)] 72)))
    have c0 := (below_at B0.out _ hg).trans (hc k (by omega))
    have c1 := (below_at B0.out _ hg).trans (hc (k + 1) (by omega))
    obtain ⟨W2, hW2⟩ : ∃ W2, W2 = (w.alloc (.cells #[.int .u64 0, .slice (some ⟨g, o, none⟩) (k + 2) (k + 2)] 72)).alloc (.cells #[.int .u64 0, .slice (some ⟨g, o, none⟩) (k + 2) (k + 2)] 72) := ⟨_, rfl⟩
    have b1 : W2.cell? ⟨w.heap.size, 1, none⟩ = some (.slice (some ⟨g, o, none⟩) (k + 2) (k + 2)) := by rw [hW2, World.cell?_alloc_past _ _ _ (by simp), World.cell?_alloc_new]; rfl
    rw [← hW2] at c0 c1 B0
    have hb0 := lz_bd x k
    have hb1 := lz_bd x (k + 1)
    generalize lz x k = t at *
    generalize lz x (k + 1) = s at *
    have hwr : IntKind.i64.wrap (s * 1000000000 + t) = s * 1000000000 + t := by rw [IntKind.wrap_i64]; omega
    clear hn hlt hu hc h2
    go_enter Tryz.func235, Tryz.ntmps235
    go_wp2_with fail
    refine (HW.out _ (alloc_below _ _)).mono ?_
    rintro e w' ⟨rfl, rfl⟩
    rw [← hW2]
    clear hW2
    go_wp2
    go_region
    all_goals go_wp2
    all_goals go_ret
    all_goals exact ⟨rfl, B0.out.drew⟩
  · have HW := Lib.hid (fun W (hb : Below w.heap.size w W) => isWord_yes _ _ x W (hu.below hb) h2)
    have hx1 := (nl_word hx0).1 h2
    obtain ⟨rfl, rfl⟩ := hu.small h2
    have B0 := Lib.hid (((alloc_below w (.cells #[.int .u64 x, .slice none 0 0] 72)).alloc (by simp) (.cells #[.int .u64 x, .slice none 0 0] 72)))
    rw [show nl x - 2 = 0 by omega, div_bp_zero]
    clear hu h2
    go_enter Tryz.func235, Tryz.ntmps235
    go_wp2_with fail
    refine (HW.out _ (alloc_below _ _)).mono ?_
    rintro e w' ⟨rfl, rfl⟩
    go_wp2
    go_ret
    exact ⟨rfl, B0.out⟩
theorem abs_any (a b : Int) (w : World) (ha1 : -1000000000 < a) (ha2 : a < 1000000000) (hb1 : -1000000000 < b) (hb2 : b < 1000000000) :
    Calls Tryz.prog 237 #[.agg #[.int .i64 a, .int .i64 b]] w fun e w' => e = .returned (.agg #[.int .i64 a.natAbs, .int .i64 b.natAbs]) ∧ Below w.heap.size w w' := by
  have ea : max a (-a) = (a.natAbs : Int) := by omega
  have eb : max b (-b) = (b.natAbs : Int) := by omega
  have EA := Lib.hid ea
  have EB := Lib.hid eb
  have F := Lib.hid (FB.start w a b a.natAbs b.natAbs 210)
  clear ea eb
  go_enter Tryz.func237, Tryz.ntmps237
  go_wp2
  rw [EA.out, EB.out]
  exact bodyPost_ret (v := .agg #[.int .i64 a.natAbs, .int .i64 b.natAbs]) (by simp [results, Tryz.results237, go_sem, F.out.c.1, F.out.d.1]) rfl ⟨rfl, F.out.below⟩
end Go.Proofs.YtkhebidmfjbhaaaGreatDoor
