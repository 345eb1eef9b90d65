/-
  What the reference's Pow returns.
  What whole.Sum returns.
  What the reference's Sum, Copy and Same return.
-/
import Derived.Test.YtphbfjcaehiboaaGreatDoorZv
import Derived.Test.YtphbfjcaehiboaaGreatDoorZw
import Derived.Test.YtphbfjcaehiboaaGreatDoorZr
import Derived.Laws.AppendOwnNone
namespace Go.Proofs.YtphbfjcaehiboaaGreatDoor
open Go.RowKit

theorem tx_test (z u : Int) (l : List UInt8) (h : Lib.itoa u = l) : ((tx z).toList == l) = decide (z = u) := by
  have h0 : (tx u).toList = l := by rw [Lib.toList_data, tx_list]; exact h
  by_cases h1 : z = u
  · rw [h1, h0, decide_eq_true rfl, beq_iff_eq]
  · rw [decide_eq_false h1, beq_eq_false_iff_ne]
    intro e
    rw [← h0, Lib.toList_data, Lib.toList_data] at e
    exact h1 (tx_inj.1 (ba_ext e))
theorem tx_one_test (z : Int) : ((tx z).toList == [49]) = decide (z = 1) := tx_test z 1 _ (by simp [Lib.itoa, Lib.decDigits])
theorem tx_neg_test (z : Int) : ((tx z).toList == [45, 49]) = decide (z = -1) := tx_test z (-1) _ (by simp [Lib.itoa, Lib.decDigits])
theorem abs_pow (x : Int) (n : Nat) : (x ^ n).natAbs = x.natAbs ^ n := Int.natAbs_pow x n
theorem pow_dn_mono {x : Int} {i n : Nat} (hx : x ≠ 0) (h : i ≤ n) : dn (x ^ i) ≤ dn (x ^ n) := by
  refine dnabs_le ?_
  rw [abs_pow, abs_pow]
  exact Nat.pow_le_pow_right (by omega) h
theorem dn_mul2 {x y : Int} {j k : Nat} (hx : dn x ≤ j) (hy : dn y ≤ k) (hj : 1 ≤ j) : dn (x * y) ≤ j + k := by
  obtain ⟨i, rfl⟩ : ∃ i, j = i + 1 := ⟨j - 1, by omega⟩
  rw [show i + 1 + k = i + k + 1 by omega]
  refine dn_le2 ?_
  rw [Int.natAbs_mul, Int.natCast_mul, show i + k + 1 = i + 1 + k by omega]
  exact Ten.mul_lt_bp (by omega) (by omega) (dn_abs_lt hx) (dn_abs_lt hy)
theorem givesX_mk {z : Int} {s : ByteArray} {n : Int} {w w' : World} {e : Ending} (h1 : e = .returned (.tuple #[.string s, .int .i64 n])) (hb : Below w.heap.size w w') (h2 : dn z ≤ 1000 → s = tx z ∧ n = 0) (h3 : ¬ dn z ≤ 1000 → s = ⟨#[]⟩ ∧ n = 3) : GivesX z w e w' := by
  refine ⟨?_, hb⟩
  rw [h1]
  by_cases h : dn z ≤ 1000
  · rw [if_pos h, if_pos h, (h2 h).1, (h2 h).2]
  · rw [if_neg h, if_neg h, (h3 h).1, (h3 h).2]
theorem dn_small {z : Int} (h : z.natAbs ≤ 9) : dn z ≤ 1000 := Nat.le_trans (dnabs_le (y := 9) (by omega)) (by simp [dn, Lib.nDigits_small])
theorem RPow_neg (x n : Int) (w : World) (hx : dn x ≤ 1000) (hn : n < 0) :
    Calls Tryz.prog 30 #[.string (tx x), .int .i64 n] w (GivesEr 1 w) := by
  have IX := Lib.hid (fun W => Is_tx x W hx)
  have B0 := Lib.hid (Below.refl w.heap.size w)
  obtain ⟨A, hA⟩ : ∃ T, T = tx x := ⟨_, rfl⟩
  rw [← hA] at IX ⊢
  clear hA hx
  go_enter Tryz.func30, Tryz.ntmps30
  go_wp2_with fail
  (with_reducible refine Calls.mono (IX.out _) ?_)
  rintro e w' ⟨rfl, rfl⟩
  go_wp2
  go_ret2
  exact ⟨rfl, B0.out⟩
theorem RPow_bad (s : ByteArray) (n : Int) (w : World) (hs : s.size ≤ 9223372036854775807) (h : isT s.data.toList = false) :
    Calls Tryz.prog 30 #[.string s, .int .i64 n] w (GivesEr 1 w) := by
  have IX := Lib.hid (fun W => Is_bad s W hs h)
  have B0 := Lib.hid (Below.refl w.heap.size w)
  clear h
  go_enter Tryz.func30, Tryz.ntmps30
  go_wp2_with fail
  (with_reducible refine Calls.mono (IX.out _) ?_)
  rintro e w' ⟨rfl, rfl⟩
  go_wp2
  go_ret2
  exact ⟨rfl, B0.out⟩
theorem RPow_zero (x : Int) (w : World) (hx : dn x ≤ 1000) :
    Calls Tryz.prog 30 #[.string (tx x), .int .i64 0] w (GivesX (x ^ 0) w) := by
  have IX := Lib.hid (fun W => Is_tx x W hx)
  have B0 := Lib.hid (Below.refl w.heap.size w)
  obtain ⟨A, hA⟩ : ∃ T, T = tx x := ⟨_, rfl⟩
  have ht1 := tx_one
  rw [← hA] at IX ⊢
  have HT1 := Lib.hid ht1
  clear hA hx ht1
  go_enter Tryz.func30, Tryz.ntmps30
  go_wp2_with fail
  (with_reducible refine Calls.mono (IX.out _) ?_)
  rintro e w' ⟨rfl, rfl⟩
  go_wp2
  go_ret2
  refine givesX_mk (s := ⟨#[49]⟩) (n := 0) rfl B0.out (fun _ => ⟨?_, rfl⟩) (fun h => absurd (dn_small (z := x ^ 0) (by rw [Int.pow_zero]; decide)) h)
  rw [Int.pow_zero, HT1.out]
/-- The powers of 0, 1 and -1. -/
theorem RPow_unit (x : Int) (n : Nat) (w : World) (hn0 : 0 < n) (hn : n < 9223372036854775808) (hu : x = 0 ∨ x = 1 ∨ x = -1) :
    Calls Tryz.prog 30 #[.string (tx x), .int .i64 n] w (GivesX (x ^ n) w) := by
  have hx : dn x ≤ 1000 := dn_small (by omega)
  have IX := Lib.hid (fun W => Is_tx x W hx)
  have B0 := Lib.hid (Below.refl w.heap.size w)
  have e0 := tx_zero_test x
  have e1 := tx_one_test x
  have e2 := tx_neg_test x
  have hp : (x = 0 → x ^ n = 0) ∧ (x = 1 → x ^ n = 1) ∧ (x = -1 → n % 2 = 1 → x ^ n = -1) ∧ (x = -1 → n % 2 = 0 → x ^ n = 1) := by
    have hsq : ∀ k : Nat, (-1 : Int) ^ (2 * k) = 1 := fun k => by rw [Int.pow_mul]; rw [show (-1 : Int) ^ 2 = 1 by decide, Int.one_pow]
    refine ⟨fun h => by rw [h, Int.zero_pow (by omega)], fun h => by rw [h, Int.one_pow], fun h h2 => ?_, fun h h2 => ?_⟩
    · rw [h, show n = 2 * (n / 2) + 1 by omega, Int.pow_succ, hsq]; rfl
    · rw [h, show n = 2 * (n / 2) by omega, hsq]
  obtain ⟨p1, p2, p3, p4⟩ := hp
  have HT1 := Lib.hid tx_one
  have hni : ((n : Int) < 0) = False := by rw [eq_iff_iff]; exact ⟨fun h => by omega, False.elim⟩
  have hnz : ((n : Int) == 0) = false := by rw [beq_eq_false_iff_ne]; omega
  have hnb : (n : Int) ≤ 9223372036854775807 := by omega
  obtain ⟨A, hA⟩ : ∃ T, T = tx x := ⟨_, rfl⟩
  rw [← hA] at IX e0 e1 e2 ⊢
  have HA := Lib.hid hA
  clear hA hx
  rcases hu with h | h | h
  · have HP := Lib.hid (p1 h)
    have HX := Lib.hid h
    rw [decide_eq_true h] at e0
    clear p1 p2 p3 p4 h e1 e2
    go_enter Tryz.func30, Tryz.ntmps30
    go_wp2_with fail
    (with_reducible refine Calls.mono (IX.out _) ?_)
    rintro e w' ⟨rfl, rfl⟩
    go_wp2
    go_ret2
    exact givesX_mk (s := A) (n := 0) rfl B0.out (fun _ => ⟨by rw [HP.out, HA.out, HX.out], rfl⟩) (fun h => absurd (dn_small (by rw [HP.out]; decide)) h)
  · have HP := Lib.hid (p2 h)
    have HX := Lib.hid h
    rw [decide_eq_true h] at e1
    rw [decide_eq_false (by omega)] at e0
    clear p1 p2 p3 p4 h e2
    go_enter Tryz.func30, Tryz.ntmps30
    go_wp2_with fail
    (with_reducible refine Calls.mono (IX.out _) ?_)
    rintro e w' ⟨rfl, rfl⟩
    go_wp2
    go_ret2
    exact givesX_mk (s := A) (n := 0) rfl B0.out (fun _ => ⟨by rw [HP.out, HA.out, HX.out], rfl⟩) (fun h => absurd (dn_small (by rw [HP.out]; decide)) h)
  · rw [decide_eq_true h] at e2
    rw [decide_eq_false (by omega)] at e0 e1
    have HX := Lib.hid h
    by_cases ho : n % 2 = 1
    · have HP := Lib.hid (p3 h ho)
      have ho2 : ((n : Int) % 2 == 1) = true := by rw [beq_iff_eq]; omega
      clear p1 p2 p3 p4 h ho
      go_enter Tryz.func30, Tryz.ntmps30
      go_wp2_with fail
      (with_reducible refine Calls.mono (IX.out _) ?_)
      rintro e w' ⟨rfl, rfl⟩
      go_wp2
      go_ret2
      exact givesX_mk (s := A) (n := 0) rfl B0.out (fun _ => ⟨by rw [HP.out, HA.out, HX.out], rfl⟩) (fun h => absurd (dn_small (by rw [HP.out]; decide)) h)
    · have HP := Lib.hid (p4 h (by omega))
      have ho2 : ((n : Int) % 2 == 1) = false := by rw [beq_eq_false_iff_ne]; omega
      clear p1 p2 p3 p4 h ho
      go_enter Tryz.func30, Tryz.ntmps30
      go_wp2_with fail
      (with_reducible refine Calls.mono (IX.out _) ?_)
      rintro e w' ⟨rfl, rfl⟩
      go_wp2
      go_ret2
      exact givesX_mk (s := ⟨#[49]⟩) (n := 0) rfl B0.out (fun _ => ⟨by rw [HP.out, HT1.out], rfl⟩) (fun h => absurd (dn_small (by rw [HP.out]; decide)) h)
set_option maxHeartbeats 1000000 in
theorem RPow_loop (x : Int) (n : Nat) (w : World) (hx : dn x ≤ 1000) (hn0 : 0 < n) (hn : n < 9223372036854775808) (h0 : x ≠ 0) (h1 : x ≠ 1) (h2 : x ≠ -1) :
    Calls Tryz.prog 30 #[.string (tx x), .int .i64 n] w (GivesX (x ^ n) w) := by
  have IX := Lib.hid (fun W => Is_tx x W hx)
  have B0 := Lib.hid (Below.refl w.heap.size w)
  have e0 := tx_zero_test x
  have e1 := tx_one_test x
  have e2 := tx_neg_test x
  rw [decide_eq_false h0] at e0
  rw [decide_eq_false h1] at e1
  rw [decide_eq_false h2] at e2
  have hnz : ((n : Int) == 0) = false := by rw [beq_eq_false_iff_ne]; omega
  have hnb : (n : Int) ≤ 9223372036854775807 := by omega
  have HMO := Lib.hid (fun i (h : i ≤ n) => pow_dn_mono (x := x) h0 h)
  have HTI := Lib.hid (fun i (hi : dn (x ^ i) ≤ 1000) W => rtimes_any (x ^ i) x W (by omega) (by omega))
  have HLO := Lib.hid (fun i (hi : dn (x ^ i) ≤ 1000) W => rLong_any (x ^ (i + 1)) W (by
    have := dn_mul2 hi hx (by omega)
    rw [← Int.pow_succ] at this
    exact Nat.le_trans this (by omega)))
  have HT1 : Hid ((⟨#[49]⟩ : ByteArray) = tx (x ^ 0)) := Lib.hid (by rw [Int.pow_zero, tx_one])
  have HD0 : Hid (dn (x ^ 0) ≤ 1000) := Lib.hid (dn_small (by rw [Int.pow_zero]; decide))
  obtain ⟨A, hA⟩ : ∃ T, T = tx x := ⟨_, rfl⟩
  rw [← hA] at IX e0 e1 e2 HTI ⊢
  clear hA hx h0 h1 h2 hn
  go_enter Tryz.func30, Tryz.ntmps30
  go_wp2_with fail
  (with_reducible refine Calls.mono (IX.out _) ?_)
  rintro e w' ⟨rfl, rfl⟩
  go_wp2_with fail
  go_loopw [6, 7] (fun vo vi wr => ∃ (i : Nat) (O : ByteArray), i ≤ n ∧ vi = .int .i64 i ∧ vo = .string O ∧ Hid (O = tx (x ^ i)) ∧ Hid (dn (x ^ i) ≤ 1000) ∧ Below w.heap.size w wr) (fun _ vi _ => n - (intOf vi).toNat)
  case atStart => exact ⟨0, _, by omega, rfl, rfl, HT1, HD0, B0.out⟩
  case round =>
    clear HT1 HD0 B0
    obtain ⟨i, O, hi, rfl, rfl, HO, HD, hb⟩ := hrel
    have BE := Lib.hid hb
    clear hb
    by_cases hin : i < n
    · have TI := Lib.hid (fun W => HTI.out i HD.out W)
      have LO := Lib.hid (fun W => HLO.out i HD.out W)
      rw [← HO.out, ← Int.pow_succ] at TI
      have HM := Lib.hid (HMO.out (i + 1) (by omega))
      obtain ⟨P, hP⟩ : ∃ T, T = tx (x ^ (i + 1)) := ⟨_, rfl⟩
      rw [← hP] at TI LO
      have HP := Lib.hid hP
      clear hP
      by_cases hd : dn (x ^ (i + 1)) ≤ 1000
      · rw [decide_eq_false (by omega)] at LO
        have HD1 := Lib.hid hd
        clear hd
        go_wp2_with fail
        (with_reducible refine Calls.mono (TI.out _) ?_)
        rintro e w1 ⟨rfl, hb⟩
        have B1 := Lib.hid (BE.out.trans (hb.mono BE.out.size))
        clear hb
        go_wp2_with fail
        (with_reducible refine Calls.mono (LO.out _) ?_)
        rintro e w' ⟨rfl, rfl⟩
        go_wp2
        go_roundw
        case rel => exact ⟨i + 1, _, by omega, by go_num, rfl, HP, HD1, B1.out⟩
        case measure => simp [intOf] <;> omega
      · rw [decide_eq_true (by omega)] at LO
        have HD1 : Hid (¬ dn (x ^ n) ≤ 1000) := Lib.hid (by have := HM.out; omega)
        clear hd
        go_wp2_with fail
        (with_reducible refine Calls.mono (TI.out _) ?_)
        rintro e w1 ⟨rfl, hb⟩
        have B1 := Lib.hid (BE.out.trans (hb.mono BE.out.size))
        clear hb
        go_wp2_with fail
        (with_reducible refine Calls.mono (LO.out _) ?_)
        rintro e w' ⟨rfl, rfl⟩
        go_wp2
        go_ret2
        exact givesX_mk (s := ⟨#[]⟩) (n := 3) rfl B1.out (fun h => absurd h HD1.out) (fun _ => ⟨rfl, rfl⟩)
    · obtain rfl : i = n := by omega
      go_wp2
      go_ret2
      exact givesX_mk (s := O) (n := 0) rfl BE.out (fun _ => ⟨HO.out, rfl⟩) (fun h => absurd HD.out h)
theorem RPow_tx (x : Int) (n : Nat) (w : World) (hx : dn x ≤ 1000) (hn : n < 9223372036854775808) :
    Calls Tryz.prog 30 #[.string (tx x), .int .i64 n] w (GivesX (x ^ n) w) := by
  rcases Nat.eq_zero_or_pos n with h | h
  · subst h; exact RPow_zero x w hx
  · by_cases h0 : x = 0
    · exact RPow_unit x n w h hn (.inl h0)
    · by_cases h1 : x = 1
      · exact RPow_unit x n w h hn (.inr (.inl h1))
      · by_cases h2 : x = -1
        · exact RPow_unit x n w h hn (.inr (.inr h2))
        · exact RPow_loop x n w hx h hn h0 h1 h2
end Go.Proofs.YtphbfjcaehiboaaGreatDoor
namespace Go.Proofs.YtphbfjcaehiboaaGreatDoor
open Go.RowKit

/-- The sum of the first k numbers. -/
def tot (Z : Nat → Int) : Nat → Int
  | 0 => 0
  | k + 1 => tot Z k + Z k
theorem tot_bd {Z : Nat → Int} : ∀ k, (∀ j, j < k → dn (Z j) ≤ 1000) → (((tot Z k).natAbs : Nat) : Int) ≤ k * Ten.bp 1000
  | 0, _ => by unfold tot; simp
  | k + 1, h => by
    have h1 := tot_bd k (fun j hj => h j (by omega))
    have h2 := dn_lt (x := ((Z k).natAbs : Int)) (by omega)
    rw [dn_abs] at h2
    have h3 := Ten.bp_mono (h k (by omega))
    have h4 : ((k + 1 : Nat) : Int) * Ten.bp 1000 = k * Ten.bp 1000 + Ten.bp 1000 := by rw [Int.natCast_add, Int.add_mul]; simp
    unfold tot
    rw [h4]
    generalize (k : Int) * Ten.bp 1000 = a at *
    omega
theorem tot_nl {Z : Nat → Int} {k : Nat} (hk : k ≤ 1000) (h : ∀ j, j < k → dn (Z j) ≤ 1000) : nl (tot Z k).natAbs ≤ 20000 := by
  have h1 := tot_bd k h
  have hp := Ten.bp_pos 1000
  have h2 : (k : Int) * Ten.bp 1000 ≤ 1000 * Ten.bp 1000 := Int.mul_le_mul_of_nonneg_right (by omega) (by omega)
  have h3 : (1000 : Int) * Ten.bp 1000 < Ten.bp 4 * Ten.bp 1000 := Int.mul_lt_mul_of_pos_right (by unfold Ten.bp; decide) hp
  rw [← Ten.bp_add] at h3
  have h4 : dn ((tot Z k).natAbs : Int) ≤ 4 + 1000 := dn_le (by omega) (by omega) (by omega)
  have h5 := nl_dn (x := ((tot Z k).natAbs : Int)) (by omega)
  omega
set_option maxHeartbeats 2000000 in
set_option maxRecDepth 100000 in
theorem Sum_any (a : Option Addr) (n c m : Nat) (S : Nat → ByteArray) (Z : Nat → Int) (w : World) (_hc : n ≤ c) (hn : n ≤ 1000) (hm : m ≤ n)
    (hr : 0 < n → ∃ g o, a = some ⟨g, o, none⟩ ∧ g < w.heap.size ∧ ∀ j, j < n → w.cell? ⟨g, o + j, none⟩ = some (.string (S j)))
    (hz : ∀ j, j < m → S j = tx (Z j) ∧ dn (Z j) ≤ 1000) (hb : m < n → (S m).size ≤ 9223372036854775807 ∧ isT (S m).data.toList = false) :
    Calls Tryz.prog 32 #[.slice a n c] w (fun e w' => (m = n → GivesX (tot Z n) w e w') ∧ (m < n → GivesEr 1 w e w')) := by
  have HR := Lib.hid hr
  have HZ := Lib.hid hz
  have HB := Lib.hid hb
  have N0 := Lib.hid (NB.new (b := false) 66 (NatV.zero w) w.heap.size rfl)
  have B0 := Lib.hid (alloc_below w (.cells #[.slice none 0 0, .bool false] 66))
  have TN := Lib.hid (fun k (hk : k ≤ m) => tot_nl (Z := Z) (k := k) (by omega) (fun j hj => (hz j (by omega)).2))
  clear hr hz hb
  go_enter Tryz.func32, Tryz.ntmps32
  go_wp2_with fail
  go_loopw [12] (fun i wr => ∃ (k : Nat) (v : Value), k ≤ m ∧ i = .int .i64 k ∧ NB wr w.heap.size v (decide (tot Z k < 0)) (tot Z k).natAbs ∧ Below w.heap.size w wr) (fun i _ => n - (intOf i).toNat)
  case atStart => exact ⟨0, _, by omega, rfl, N0.out, B0.out⟩
  case round =>
    clear N0 B0
    obtain ⟨k, v, hk, rfl, hnb, hbe⟩ := hrel
    have hws := hbe.size
    have NBH := Lib.hid hnb
    obtain ⟨x, nx, rfl, x1, x2, x3, x4, x5⟩ := hnb.n.form
    clear x1 x2 x3 x4 x5
    obtain ⟨sk, hsk⟩ : ∃ s, s = decide (tot Z k < 0) := ⟨_, rfl⟩
    rw [← hsk] at NBH hnb
    have HSK := Lib.hid hsk
    have BE := Lib.hid hbe
    obtain ⟨e0, e1⟩ := hnb.c
    obtain ⟨e2, e3⟩ := hnb.d
    clear hsk hbe hnb
    by_cases hlt : k < n
    · obtain ⟨g, o, rfl, hg, hcl⟩ := HR.out (by omega)
      have hcell := (below_at BE.out (o + k) hg).trans (hcl k hlt)
      clear hcl
      by_cases hkm : k < m
      · obtain ⟨hS, hd⟩ := HZ.out k hkm
        have PA := Lib.hid (parse_tx (Z k) wr hd)
        rw [← hS] at PA
        have hnz := nl_112 (x := ((Z k).natAbs : Int)) (by omega) (by rw [dn_abs]; exact hd)
        have hnt := TN.out k (by omega)
        have PL := Lib.hid (fun W v1 v2 s1 s2 (e1 : s1 = decide (tot Z k < 0)) (e2 : s2 = decide (Z k < 0)) (h1 : NatV W v1 ((tot Z k).natAbs : Int)) (h2 : NatV W v2 ((Z k).natAbs : Int)) => (show Calls Tryz.prog 49 #[.agg #[v1, .bool s1], .agg #[v2, .bool s2]] W (GivesZ (tot Z (k + 1)) W) from by rw [e1, e2]; exact plus_any v1 v2 (tot Z k) (Z k) W h1 h2 (by omega) (by omega)))
        obtain ⟨T, hT⟩ : ∃ T, T = S k := ⟨_, rfl⟩
        rw [← hT] at PA hcell
        clear hS hd hnz hnt hT
        go_wp2_with fail
        refine PA.out.mono ?_
        rintro e w1 ⟨v1, rfl, hv1, hb1⟩
        obtain ⟨s1, hs1⟩ : ∃ s, s = decide (Z k < 0) := ⟨_, rfl⟩
        rw [← hs1]
        have HS1 := Lib.hid hs1
        obtain ⟨y, ny, rfl, x1, x2, x3, x4, x5⟩ := hv1.form
        clear x1 x2 x3 x4 x5
        have hb2 := hb1.trans ((alloc_below w1 (.cells #[.slice y ny ny, .bool s1] 66)).mono hb1.size)
        have N1 := Lib.hid (NBH.out.step hb2)
        have X1 := Lib.hid (NB.new (b := s1) 66 hv1 w1.heap.size rfl)
        have B1 := Lib.hid (BE.out.trans (hb2.mono hws))
        obtain ⟨K1, hK1⟩ : ∃ K1, K1 = w1.heap.size := ⟨_, rfl⟩
        rw [← hK1] at X1
        have HK1 := Lib.hid hK1
        clear hv1 hb1 hb2 hs1 hK1 e0 e1 e2 e3 PA
        obtain ⟨e0, e1⟩ := N1.out.c
        obtain ⟨e2, e3⟩ := N1.out.d
        obtain ⟨f0, f1⟩ := X1.out.c
        obtain ⟨f2, f3⟩ := X1.out.d
        rw [HK1.out] at f0 f1 f2 f3
        go_wp2_with fail
        refine (PL.out _ _ _ _ _ HSK.out HS1.out N1.out.n X1.out.n).mono ?_
        rintro e w3 ⟨v3, rfl, hv3, hb3⟩
        obtain ⟨s3, hs3⟩ : ∃ s, s = decide (tot Z (k + 1) < 0) := ⟨_, rfl⟩
        rw [← hs3]
        have HS3 := Lib.hid hs3
        obtain ⟨q, nq, rfl, x1, x2, x3, x4, x5⟩ := hv3.form
        clear x1 x2 x3 x4 x5
        have N3 := Lib.hid (N1.out.step hb3)
        have V3 := Lib.hid hv3
        have B3 := Lib.hid (B1.out.trans (hb3.mono B1.out.size))
        clear hv3 hb3 hs3 e0 e1 e2 e3 f0 f1 f2 f3 PL
        obtain ⟨e0, e1⟩ := N3.out.c
        obtain ⟨e2, e3⟩ := N3.out.d
        go_wp2
        go_roundw
        case rel => exact ⟨k + 1, _, by omega, by go_num, by rw [← HS3.out]; exact N3.out.put V3.out, below_set (below_set B3.out 0 (Nat.le_refl _) _) 1 (Nat.le_refl _) _⟩
        case measure => simp [intOf] <;> omega
      · have hkm' : k = m := by omega
        obtain ⟨hs, ht⟩ := HB.out (by omega)
        rw [← hkm'] at hs ht
        have HKM := Lib.hid hkm'
        clear hkm'
        have PA := Lib.hid (parse_no (S k) wr hs ht)
        obtain ⟨T, hT⟩ : ∃ T, T = S k := ⟨_, rfl⟩
        rw [← hT] at PA hcell
        clear hs ht hT
        go_wp2_with fail
        refine PA.out.mono ?_
        rintro e w1 ⟨rfl, hb1⟩
        have B1 := Lib.hid ((BE.out.trans (hb1.mono hws)).alloc (BE.out.trans (hb1.mono hws)).size (.cells #[.slice none 0 0, .bool false] 66))
        clear hb1
        go_wp2
        go_ret2
        exact ⟨fun h => absurd h (by have := HKM.out; omega), fun _ => ⟨rfl, B1.out⟩⟩
    · have hkn : k = n := by omega
      have hmn : m = n := by omega
      have TX := Lib.hid (fun W v s (e : s = decide (tot Z k < 0)) (h : NatV W v ((tot Z k).natAbs : Int)) => (show Calls Tryz.prog 60 #[.agg #[v, .bool s]] W (GivesX (tot Z k) W) from by rw [e]; exact text_any v (tot Z k) W h))
      have NN := Lib.hid NBH.out.n
      go_wp2_with fail
      refine (TX.out _ _ _ HSK.out NN.out).mono ?_
      rintro e w1 ⟨rfl, hb1⟩
      have B1 := Lib.hid (BE.out.trans (hb1.mono hws))
      obtain ⟨T, hT⟩ : ∃ T, T = (if dn (tot Z k) ≤ 1000 then tx (tot Z k) else ⟨#[]⟩) := ⟨_, rfl⟩
      obtain ⟨E, hE⟩ : ∃ E : Int, E = (if dn (tot Z k) ≤ 1000 then 0 else 3) := ⟨_, rfl⟩
      rw [← hT, ← hE]
      have HT := Lib.hid hT
      have HE := Lib.hid hE
      have HKN := Lib.hid hkn
      clear hT hE hb1 hkn
      go_wp2
      go_ret2
      exact ⟨fun _ => ⟨by rw [← HKN.out, ← HT.out, ← HE.out]; rfl, B1.out⟩, fun h => absurd h (by omega)⟩
end Go.Proofs.YtphbfjcaehiboaaGreatDoor
namespace Go.Proofs.YtphbfjcaehiboaaGreatDoor
open Go.RowKit

theorem undS : Tryz.prog.underlying 39 = some (.slice 22) := by kernel_rfl
theorem infoS : (Tryz.prog.info? 22).map (fun i => (i.zero, i.size, i.bytes)) = some (some (.string ⟨#[]⟩), 1, 16) := by kernel_rfl
/-- The slice (a, n) reads as the first n texts of S. -/
def Strs (w : World) (B : Nat) (a : Option Addr) (n : Nat) (S : Nat → ByteArray) : Prop :=
  0 < n → ∃ g o, a = some ⟨g, o, none⟩ ∧ g < B ∧ ∀ j, j < n → w.cell? ⟨g, o + j, none⟩ = some (.string (S j))
theorem Strs.below {w w' : World} {a : Option Addr} {n : Nat} {S : Nat → ByteArray} (h : Strs w w.heap.size a n S) (hb : Below w.heap.size w w') : Strs w' w'.heap.size a n S := fun h0 => by
  obtain ⟨g, o, e, hg, hc⟩ := h h0
  exact ⟨g, o, e, Nat.lt_of_lt_of_le hg hb.size, fun j hj => (below_at hb (o + j) hg).trans (hc j hj)⟩
def Yes (w : World) (e : Ending) (w' : World) : Prop := e = .returned (.bool true) ∧ ∃ d, w' = w.drewN d
theorem Same_none (a b : Option Addr) (c d : Nat) (w : World) :
    Calls Tryz.prog 34 #[.slice a 0 c, .slice b 0 d] w (Yes w) := by
  go_enter Tryz.func34, Tryz.ntmps34
  go_wp2
  refine wp_loop_rounds 1 ?_
  rw [rounds_succ]
  go_wp2
  go_ret
  exact ⟨rfl, 0, rfl⟩
theorem Same_some (g o c g' o' c' n : Nat) (S : Nat → ByteArray) (w : World) (hn : n ≤ 1000000) (hc : ∀ j, j < n → w.cell? ⟨g, o + j, none⟩ = some (.string (S j))) (hc' : ∀ j, j < n → w.cell? ⟨g', o' + j, none⟩ = some (.string (S j))) :
    Calls Tryz.prog 34 #[.slice (some ⟨g, o, none⟩) n c, .slice (some ⟨g', o', none⟩) n c'] w (Yes w) := by
  have HC := Lib.hid hc
  have HC' := Lib.hid hc'
  clear hc hc'
  go_enter Tryz.func34, Tryz.ntmps34
  go_wp2
  go_loopw [5] (fun i wr => ∃ j k : Nat, j ≤ n ∧ i = .int .i64 j ∧ wr = w.drewN k) (fun i _ => n - (intOf i).toNat)
  case atStart => exact ⟨0, 0, by omega, rfl, rfl⟩
  case round =>
    obtain ⟨j, k, j2, rfl, rfl⟩ := hrel
    by_cases hj : j < n
    · have h1 : (w.drewN k).cell? ⟨g, o + j, none⟩ = some (.string (S j)) := HC.out j hj
      have h2 : (w.drewN k).cell? ⟨g', o' + j, none⟩ = some (.string (S j)) := HC'.out j hj
      generalize S j = T at h1 h2
      have hT : (T.toList != T.toList) = false := by simp
      obtain ⟨wd, hwd⟩ : ∃ wd, wd = w.drewN k := ⟨_, rfl⟩
      rw [← hwd] at h1 h2 ⊢
      have HD := Lib.hid hwd
      clear hwd HC HC'
      have i1 : (0 : Int) ≤ (j : Int) := by omega
      have i2 : (j : Int) < (n : Int) := by omega
      go_wp2_with fail
      go_quiet (fail)
      go_wp2
      go_roundw
      case rel => exact ⟨j + 1, _, by omega, by go_num, by rw [HD.out, World.drewN_drewN]⟩
      case measure => simp [intOf]; omega
    · clear HC HC'
      go_wp2
      go_ret
      exact ⟨rfl, _, rfl⟩
theorem Same_all (a b : Option Addr) (n c c' B B' : Nat) (S : Nat → ByteArray) (w : World) (hn : n ≤ 1000000) (h : Strs w B a n S) (h' : Strs w B' b n S) :
    Calls Tryz.prog 34 #[.slice a n c, .slice b n c'] w (Yes w) := by
  rcases Nat.eq_zero_or_pos n with e | e
  · subst e; exact Same_none a b c c' w
  · obtain ⟨g, o, rfl, _, hc⟩ := h e
    obtain ⟨g', o', rfl, _, hc'⟩ := h' e
    exact Same_some g o c g' o' c' n S w hn hc hc'

/-! ### Copy -/
def txs (S : Nat → ByteArray) (n : Nat) : List Value := (List.range n).map (fun j => Value.string (S j))
theorem txs_len (S : Nat → ByteArray) (n : Nat) : (txs S n).length = n * 1 := by unfold txs; simp
theorem txs_get (S : Nat → ByteArray) (n j : Nat) (h : j < n) : (txs S n)[j]? = some (.string (S j)) := by unfold txs; simp [h]
theorem strs_of_own {w : World} {base : Nat} {v : Value} {n : Nat} {S : Nat → ByteArray} (h : w.ownsRow base 22 1 v n (txs S n)) : ∃ a c, v = .slice a n c ∧ n ≤ c ∧ Strs w w.heap.size a n S := by
  rcases h.2 with ⟨hv, h0⟩ | ⟨g, cap, cur, hv, _, hg, hc, _⟩
  · exact ⟨none, 0, by rw [hv, h0], by omega, fun k => absurd k (by omega)⟩
  · subst hv
    refine ⟨_, cap, rfl, hc, fun _ => ⟨g, 0, rfl, (Array.getElem?_eq_some_iff.1 hg).1, fun j hj => ?_⟩⟩
    rw [Nat.zero_add, h.cellAt j (by omega), txs_get S n j hj]
def Copied (n : Nat) (S : Nat → ByteArray) (w : World) (e : Ending) (w' : World) : Prop := ∃ a c, e = .returned (.slice a n c) ∧ n ≤ c ∧ Strs w' w'.heap.size a n S ∧ Below w.heap.size w w'
theorem Copy_none (S : Nat → ByteArray) (w : World) : Calls Tryz.prog 31 #[.slice none 0 0] w (Copied 0 S w) := by
  obtain ⟨i0, hi, hz0, hz1, hz2⟩ := info_parts infoS
  go_enter Tryz.func31, Tryz.ntmps31
  go_wp2_with (at_builtin; refine wpList_append_own_none rfl _ _ 39 rfl w.heap.size 22 i0 1 undS hi _ _ _ rfl (World.ownsRow_lit w #[] 0 (Nat.le_refl _) (by unfold maxLen; omega) rfl) rfl ?_)
  go_ret
  exact ⟨_, _, rfl, Nat.zero_le _, fun t => absurd t (by omega), (Below.refl _ _).alloc (Nat.le_refl _) _⟩
theorem Copy_some (ad : Addr) (n c : Nat) (S : Nat → ByteArray) (w : World) (hn : n ≤ 1000000) (hs : Strs w w.heap.size (some ad) n S) :
    Calls Tryz.prog 31 #[.slice (some ad) n c] w (Copied n S w) := by
  obtain ⟨i0, hi, hz0, hz1, hz2⟩ := info_parts infoS
  have hnews : ∀ j u, (txs S n)[j]? = some u → (w.alloc (.cells #[] 22)).cell? (ad.add j) = some u := by
    intro j u hu
    by_cases hj : j < n
    · obtain ⟨g, o, e, hg, hc⟩ := hs (by omega)
      obtain rfl : ad = ⟨g, o, none⟩ := Option.some.inj e
      rw [WideShapes.add_plain, World.cell?_alloc_past _ _ _ hg, hc j hj, ← hu, txs_get S n j hj]
    · rw [List.getElem?_eq_none (by have := txs_len S n; omega)] at hu; cases hu
  have HN := Lib.hid hnews
  clear hs hnews
  go_enter Tryz.func31, Tryz.ntmps31
  go_wp2_with (at_builtin; refine wpList_append_own _ rfl _ _ 39 rfl w.heap.size 22 i0 (.string ⟨#[]⟩) 1 16 undS hi hz0 hz1 hz2 rfl (by decide) _ _ _ rfl (World.ownsRow_lit w #[] 0 (Nat.le_refl _) (by unfold maxLen; omega) rfl) ad n c (txs S n) rfl (txs_len S n) HN.out ?c2 ?c3 ?c4 ?c5 ?_)
  case c2 => intro u hu; unfold txs at hu; obtain ⟨x, _, rfl⟩ := List.mem_map.1 hu; rfl
  case c3 => unfold maxLen; omega
  case c4 => omega
  case c5 => simp
  · intro v' w1 hown' hgrow _
    obtain ⟨a, cc, hv, hc, hI⟩ := strs_of_own hown'
    have hb : Below w.heap.size w w1 := ((Below.refl _ _).alloc (Nat.le_refl _) _).grown hgrow (by simp) (fun k hk => by cases hk; exact Nat.le_refl _)
    have HI := Lib.hid hI
    have HB := Lib.hid hb
    clear hown' hgrow hI hb HN
    subst hv
    go_wp2
    go_ret
    exact ⟨_, _, rfl, hc, HI.out, HB.out⟩
theorem Copy_all (a : Option Addr) (n c : Nat) (S : Nat → ByteArray) (w : World) (hn : n ≤ 1000000) (h : Strs w w.heap.size a n S) (hnil : a = none → n = 0 ∧ c = 0) :
    Calls Tryz.prog 31 #[.slice a n c] w (Copied n S w) := by
  cases a with
  | none => obtain ⟨rfl, rfl⟩ := hnil rfl; exact Copy_none S w
  | some ad => exact Copy_some ad n c S w hn h

/-! ### Sum -/
theorem tot_dn {Z : Nat → Int} {k : Nat} (hk : k ≤ 1000) (h : ∀ j, j < k → dn (Z j) ≤ 1000) : dn (tot Z k) ≤ 1004 := by
  have h1 := tot_bd k h
  have hp := Ten.bp_pos 1000
  have h2 : (k : Int) * Ten.bp 1000 ≤ 1000 * Ten.bp 1000 := Int.mul_le_mul_of_nonneg_right (by omega) (by omega)
  have h3 : (1000 : Int) * Ten.bp 1000 < Ten.bp 4 * Ten.bp 1000 := Int.mul_lt_mul_of_pos_right (by unfold Ten.bp; decide) hp
  rw [← Ten.bp_add] at h3
  exact dn_le2 (k := 1003) (Int.lt_of_le_of_lt (Int.le_trans h1 h2) h3)
set_option maxHeartbeats 1000000 in
theorem RSum_any (a : Option Addr) (n c m : Nat) (S : Nat → ByteArray) (Z : Nat → Int) (w : World) (hn : n ≤ 1000) (hm : m ≤ n)
    (hr : Strs w w.heap.size a n S)
    (hz : ∀ j, j < m → S j = tx (Z j) ∧ dn (Z j) ≤ 1000) (hb : m < n → (S m).size ≤ 9223372036854775807 ∧ isT (S m).data.toList = false) :
    Calls Tryz.prog 33 #[.slice a n c] w (fun e w' => (m = n → GivesX (tot Z n) w e w') ∧ (m < n → GivesEr 1 w e w')) := by
  have HR := Lib.hid hr
  have HB := Lib.hid hb
  have B0 := Lib.hid (Below.refl w.heap.size w)
  have HI := Lib.hid (fun k (hk : k < m) W => (show Calls Tryz.prog 8 #[.string (S k)] W fun e w' => e = .returned (.bool true) ∧ W = w' from by rw [(hz k hk).1]; exact Is_tx (Z k) W (hz k hk).2))
  have HP := Lib.hid (fun k (hk : k < m) W => (show Calls Tryz.prog 51 #[.string (tx (tot Z k)), .string (S k)] W (GivesY (tx (tot Z (k + 1))) W) from by
    rw [(hz k hk).1]
    have h1 := tot_dn (Z := Z) (k := k) (by omega) (fun j hj => (hz j (by omega)).2)
    have h2 := (hz k hk).2
    exact rplus_any (tot Z k) (Z k) W (by omega) (by omega)))
  have HL := Lib.hid (fun (h : m = n) W => rlimited_any (tot Z n) W (Nat.le_trans (tot_dn (Z := Z) (k := n) hn (fun j hj => (hz j (by omega)).2)) (by omega)))
  have T0 : Hid ((⟨#[48]⟩ : ByteArray) = tx (tot Z 0)) := Lib.hid (by show _ = tx 0; rw [tx_zero_lit])
  clear hr hz hb
  go_enter Tryz.func33, Tryz.ntmps33
  go_wp2_with fail
  go_loopw [4, 5] (fun vo vi wr => ∃ (k : Nat) (O : ByteArray), k ≤ m ∧ vi = .int .i64 k ∧ vo = .string O ∧ Hid (O = tx (tot Z k)) ∧ Below w.heap.size w wr) (fun _ vi _ => n - (intOf vi).toNat)
  case atStart => exact ⟨0, _, by omega, rfl, rfl, T0, B0.out⟩
  case round =>
    clear T0 B0
    obtain ⟨k, O, hk, rfl, rfl, HO, hbe⟩ := hrel
    have BE := Lib.hid hbe
    clear hbe
    by_cases hlt : k < n
    · obtain ⟨g, o, rfl, hg, hcl⟩ := HR.out (by omega)
      have hcell := (below_at BE.out (o + k) hg).trans (hcl k hlt)
      have HCL : Hid (∀ W, Below wr.heap.size wr W → W.cell? ⟨g, o + k, none⟩ = some (.string (S k))) := Lib.hid (fun W hW => (below_at hW (o + k) (Nat.lt_of_lt_of_le hg BE.out.size)).trans hcell)
      clear hcl
      by_cases hkm : k < m
      · have IK := Lib.hid (fun W => HI.out k hkm W)
        have PK := Lib.hid (fun W => HP.out k hkm W)
        rw [← HO.out] at PK
        obtain ⟨T, hT⟩ : ∃ T, T = S k := ⟨_, rfl⟩
        obtain ⟨P, hP⟩ : ∃ P, P = tx (tot Z (k + 1)) := ⟨_, rfl⟩
        rw [← hT] at IK PK hcell
        rw [← hP] at PK
        have HP1 := Lib.hid hP
        clear hT hP HCL
        go_wp2_with fail
        (with_reducible refine Calls.mono (IK.out _) ?_)
        rintro e w' ⟨rfl, rfl⟩
        go_wp2_with fail
        (with_reducible refine Calls.mono (PK.out _) ?_)
        rintro e w1 ⟨rfl, hb⟩
        have B1 := Lib.hid (BE.out.trans (hb.mono BE.out.size))
        clear hb hcell
        go_wp2
        go_roundw
        case rel => exact ⟨k + 1, _, by omega, by go_num, rfl, HP1, B1.out⟩
        case measure => simp [intOf] <;> omega
      · have hkm' : k = m := by omega
        obtain ⟨hs, ht⟩ := HB.out (by omega)
        rw [← hkm'] at hs ht
        have IK := Lib.hid (fun W => Is_bad (S k) W hs ht)
        have HKM := Lib.hid hkm'
        obtain ⟨T, hT⟩ : ∃ T, T = S k := ⟨_, rfl⟩
        rw [← hT] at IK hcell
        clear hT hs ht hkm' HCL
        go_wp2_with fail
        (with_reducible refine Calls.mono (IK.out _) ?_)
        rintro e w' ⟨rfl, rfl⟩
        go_wp2
        go_ret2
        exact ⟨fun h => absurd h (by have := HKM.out; omega), fun _ => ⟨rfl, BE.out⟩⟩
    · have hkn : k = n := by omega
      have hmn : m = n := by omega
      have LI := Lib.hid (fun W => HL.out hmn W)
      rw [← hkn, ← HO.out] at LI
      have HKN := Lib.hid hkn
      have HMN := Lib.hid hmn
      obtain ⟨D, hD⟩ : ∃ T, T = (if dn (tot Z k) ≤ 1000 then O else ⟨#[]⟩) := ⟨_, rfl⟩
      obtain ⟨E, hE⟩ : ∃ T : Int, T = (if dn (tot Z k) ≤ 1000 then 0 else 3) := ⟨_, rfl⟩
      rw [← hD, ← hE] at LI
      have HD := Lib.hid hD
      have HE := Lib.hid hE
      clear hD hE hkn hmn
      go_wp2_with fail
      (with_reducible refine Calls.mono (LI.out _) ?_)
      rintro e w' ⟨rfl, rfl⟩
      go_wp2
      go_ret2
      exact ⟨fun _ => ⟨by rw [← HKN.out, ← HO.out]; exact ret_si HD.out HE.out, BE.out⟩, fun h => absurd h (by have := HMN.out; omega)⟩
end Go.Proofs.YtphbfjcaehiboaaGreatDoor
