/-
  The law WholePowers answers true.
-/
import Derived.Test.YtgeokeffondmhaaGreatDoorZOrder
namespace Go.Proofs.YtgeokeffondmhaaGreatDoor
open Go.RowKit

theorem u8_bd {m : Int} (h : (Lit.int .u8 m).wf = true) : 0 ≤ m ∧ m < 256 := by
  simp [Lit.wf, IntKind.min, IntKind.max, IntKind.signed, IntKind.bits] at h
  omega
theorem dn_pow {x : Int} {k : Nat} (hx : dn x ≤ k) (hk : 1 ≤ k) : ∀ i : Nat, dn (x ^ i) ≤ k * i + 1
  | 0 => by rw [Int.pow_zero, dn_one]; omega
  | i + 1 => by
    have h := dn_pow hx hk i
    rw [Int.pow_succ]
    refine Nat.le_trans (dn_times h hx (by omega)) ?_
    rw [Nat.mul_succ]
    omega
theorem Pow_ok (x : Int) (n : Nat) (w : World) (hx : dn x ≤ 1000) (hn : n < 9223372036854775808) (hd : dn (x ^ n) ≤ 1000) :
    Calls Tryz.prog 33 #[.string (tx x), .int .i64 n] w (GivesE2 (tx (x ^ n)) 0 w) := (Pow_tx x n w hx hn).mono fun _ _ h => h.ok hd
theorem Root_ok (x r : Int) (w : World) (hx : dn x ≤ 1000) (h0 : 0 ≤ x) (hr : IsRoot x r) (hd : dn r ≤ 1000) :
    Calls Tryz.prog 42 #[.string (tx x)] w (GivesE2 (tx r) 0 w) := (Root_pos x w hx (decide_eq_false (by omega)) r hr).mono fun _ _ h => h.ok hd
theorem is_root_abs (x : Int) : IsRoot (x * x) x.natAbs := by
  have e : x * x = (x.natAbs : Int) * x.natAbs := (Int.natAbs_mul_self' x).symm
  refine ⟨by omega, by omega, ?_⟩
  rw [e]
  have h1 : ((x.natAbs : Int) + 1) * (x.natAbs + 1) = x.natAbs * x.natAbs + x.natAbs + x.natAbs + 1 := by grind
  omega
theorem root_le {a r : Int} (h : IsRoot a r) : r ≤ a := by
  obtain ⟨h1, h2, h3⟩ := h
  rcases Int.lt_or_le 0 r with k | k
  · have : r * 1 ≤ r * r := Int.mul_le_mul_of_nonneg_left (by omega) h1
    omega
  · have : 0 ≤ r * r := Int.mul_nonneg h1 h1
    omega
set_option maxHeartbeats 4000000 in
set_option maxRecDepth 100000 in
theorem powers_any (a : ByteArray) (m n : Int) (w : World) (tb : Tb w) (ha : a.size ≤ 9223372036854775807) (hm : (Lit.int .u8 m).wf = true) (hn : (Lit.int .u8 n).wf = true) :
    Calls Tryz.prog 7 #[.string a, .int .u8 m, .int .u8 n] w fun e w' => e = .returned (.bool true) ∧ Below w.heap.size w w' := by
  have B0 := Lib.hid (Below.refl w.heap.size w)
  have T0 := Lib.hid tb
  obtain ⟨m0, m1⟩ := u8_bd hm
  obtain ⟨n0, n1⟩ := u8_bd hn
  have hmt : m.tmod 6 = m % 6 := Int.tmod_eq_emod_of_nonneg m0
  have hnt : n.tmod 6 = n % 6 := Int.tmod_eq_emod_of_nonneg n0
  obtain ⟨i, hi⟩ : ∃ i : Nat, (i : Int) = m % 6 := ⟨(m % 6).toNat, by omega⟩
  obtain ⟨k, hk⟩ : ∃ k : Nat, (k : Int) = n % 6 := ⟨(n % 6).toNat, by omega⟩
  rw [← hi] at hmt
  rw [← hk] at hnt
  have i6 : i < 6 := by omega
  have k6 : k < 6 := by omega
  clear hi hk hm hn
  go_enter Tryz.func7, Tryz.ntmps7
  go_wp2_with fail
  (with_reducible refine Calls.mono (fit_any a 60 _ ha (by omega) (by omega)) ?_)
  rintro e w1 ⟨X, hX, rfl, hb⟩
  have B1 := Lib.hid (B0.out.trans (hb.mono B0.out.size))
  have T1 := Lib.hid (T0.out.below hb)
  clear hb
  obtain ⟨SX, hSX⟩ : ∃ s, s = tx X := ⟨_, rfl⟩
  rw [← hSX]
  have AW := Lib.hid (fun W (tb : Tb W) => awake_any W tb)
  have d1 := dn_pow hX (by omega) i
  have d2 := dn_pow hX (by omega) k
  have d3 := dn_pow hX (by omega) (i + k)
  have d4 := dn_times hX hX (by omega)
  have PW1 := Lib.hid (fun W => Pow_ok X i W (by omega) (by omega) (by omega))
  have PW2 := Lib.hid (fun W => Pow_ok X k W (by omega) (by omega) (by omega))
  have PW3 := Lib.hid (fun W => Pow_ok X (i + k) W (by omega) (by omega) (by omega))
  have PX := Lib.hid (fun W tb => product_tx X X W tb (by omega) (by omega) (by omega))
  have hxx : 0 ≤ X * X := by rw [← Int.natAbs_mul_self' X]; exact Int.mul_nonneg (by omega) (by omega)
  have RX := Lib.hid (fun W => Root_ok (X * X) X.natAbs W (by omega) hxx (is_root_abs X) (by rw [dn_abs]; omega))
  have PQ := Lib.hid (fun W tb => product_tx (X ^ i) (X ^ k) W tb (by omega) (by omega) (by rw [← Int.pow_add]; omega))
  rw [← Int.pow_add] at PQ
  have AB := Lib.hid (fun W => Abs_tx X W (by omega))
  obtain ⟨t, ht⟩ := root_ex X.natAbs
  have htl := root_le ht
  have hdt : dn t ≤ 60 := Nat.le_trans (dn_abs_le (x := t) (y := X) (by have := ht.1; omega)) hX
  have RA := Lib.hid (fun W => Root_ok X.natAbs t W (by rw [dn_abs]; omega) (by omega) ht (by omega))
  have hdu := dn_plus hdt (y := 1) (by rw [dn_one]; omega)
  have UP := Lib.hid (fun W tb => sum_tx t 1 W tb (by omega) (by rw [dn_one]; omega) (by omega))
  have dtt := dn_times hdt hdt (by omega)
  have duu := dn_times hdu hdu (by omega)
  have PT := Lib.hid (fun W tb => product_tx t t W tb (by omega) (by omega) (by omega))
  have PU := Lib.hid (fun W tb => product_tx (t + 1) (t + 1) W tb (by omega) (by omega) (by omega))
  have C1 := Lib.hid (fun W => Cmp_tx (t * t) X.natAbs W (by omega) (by rw [dn_abs]; omega))
  have C2 := Lib.hid (fun W => Cmp_tx ((t + 1) * (t + 1)) X.natAbs W (by omega) (by rw [dn_abs]; omega))
  rw [cmp3_gt ht.2.2] at C2
  have hc1 : cmp3 (t * t) X.natAbs ≤ 0 := by
    have := ht.2.1
    unfold cmp3
    by_cases h : t * t < (X.natAbs : Int)
    · rw [if_pos h]; omega
    · rw [if_neg h, if_neg (by omega)]; omega
  obtain ⟨cc, hcc⟩ : ∃ c, c = cmp3 (t * t) X.natAbs := ⟨_, rfl⟩
  rw [← hcc] at C1 hc1
  rw [t1] at UP
  obtain ⟨S1, hS1⟩ : ∃ s, s = tx (X ^ i) := ⟨_, rfl⟩
  obtain ⟨S2, hS2⟩ : ∃ s, s = tx (X ^ k) := ⟨_, rfl⟩
  obtain ⟨S3, hS3⟩ : ∃ s, s = tx (X ^ (i + k)) := ⟨_, rfl⟩
  obtain ⟨SP, hSP⟩ : ∃ s, s = tx (X * X) := ⟨_, rfl⟩
  obtain ⟨SA, hSA⟩ : ∃ s, s = tx (X.natAbs) := ⟨_, rfl⟩
  obtain ⟨ST, hST⟩ : ∃ s, s = tx (t) := ⟨_, rfl⟩
  obtain ⟨SU, hSU⟩ : ∃ s, s = tx (t + 1) := ⟨_, rfl⟩
  obtain ⟨ST2, hST2⟩ : ∃ s, s = tx (t * t) := ⟨_, rfl⟩
  obtain ⟨SU2, hSU2⟩ : ∃ s, s = tx ((t + 1) * (t + 1)) := ⟨_, rfl⟩
  rw [← hS1] at PW1 PQ
  rw [← hS2] at PW2 PQ
  rw [← hS3] at PW3 PQ
  rw [← hSP] at PX RX
  rw [← hSA] at RX AB RA C1 C2
  rw [← hST] at RA UP PT
  rw [← hSU] at UP PU
  rw [← hST2] at PT C1
  rw [← hSU2] at PU C2
  rw [← hSX] at PW1 PW2 PW3 PX AB
  have IY := Lib.hid (fun W => is_yes SA W)
  have e3 : (S3.toList != S3.toList) = false := by simp
  have hik : ((i + k : Nat) : Int) = (i : Int) + k := by omega
  rw [hik] at PW3
  clear hS1 hS2 hS3 hSP hSA hST hSU hST2 hSU2 hSX hcc ht htl hdt hdu dtt duu d1 d2 d3 d4 hxx hX hik
  go_wp2_with fail
  (with_reducible refine Calls.mono (PW1.out _) ?_)
  rintro e w2 ⟨rfl, hb⟩
  have B2 := Lib.hid (B1.out.trans (hb.mono B1.out.size))
  have T2 := Lib.hid (T1.out.below hb)
  clear hb
  go_wp2_with fail
  (with_reducible refine Calls.mono (PW2.out _) ?_)
  rintro e w3 ⟨rfl, hb⟩
  have B3 := Lib.hid (B2.out.trans (hb.mono B2.out.size))
  have T3 := Lib.hid (T2.out.below hb)
  clear hb
  go_wp2_with fail
  (with_reducible refine Calls.mono (PW3.out _) ?_)
  rintro e w4 ⟨rfl, hb⟩
  have B4 := Lib.hid (B3.out.trans (hb.mono B3.out.size))
  have T4 := Lib.hid (T3.out.below hb)
  clear hb
  go_wp2_with fail
  (with_reducible refine Calls.mono (PX.out _ T4.out) ?_)
  rintro e w5 ⟨rfl, hb⟩
  have B5 := Lib.hid (B4.out.trans (hb.mono B4.out.size))
  have T5 := Lib.hid (T4.out.below hb)
  clear hb
  go_wp2_with fail
  (with_reducible refine Calls.mono (RX.out _) ?_)
  rintro e w6 ⟨rfl, hb⟩
  have B6 := Lib.hid (B5.out.trans (hb.mono B5.out.size))
  have T6 := Lib.hid (T5.out.below hb)
  clear hb
  go_wp2_with fail
  (with_reducible refine Calls.mono (PQ.out _ T6.out) ?_)
  rintro e w7 ⟨rfl, hb⟩
  have B7 := Lib.hid (B6.out.trans (hb.mono B6.out.size))
  have T7 := Lib.hid (T6.out.below hb)
  clear hb
  go_wp2_with fail
  (with_reducible refine Calls.mono (AB.out _) ?_)
  rintro e w' ⟨rfl, rfl⟩
  go_wp2_with fail
  (with_reducible refine Calls.mono (IY.out _) ?_)
  rintro e w' ⟨rfl, rfl⟩
  go_wp2_with fail
  (with_reducible refine Calls.mono (AB.out _) ?_)
  rintro e w' ⟨rfl, rfl⟩
  go_wp2_with fail
  (with_reducible refine Calls.mono (RA.out _) ?_)
  rintro e w8 ⟨rfl, hb⟩
  have B8 := Lib.hid (B7.out.trans (hb.mono B7.out.size))
  have T8 := Lib.hid (T7.out.below hb)
  clear hb
  go_wp2_with fail
  (with_reducible refine Calls.mono (UP.out _ T8.out) ?_)
  rintro e w9 ⟨rfl, hb⟩
  have B9 := Lib.hid (B8.out.trans (hb.mono B8.out.size))
  have T9 := Lib.hid (T8.out.below hb)
  clear hb
  go_wp2_with fail
  (with_reducible refine Calls.mono (PT.out _ T9.out) ?_)
  rintro e w10 ⟨rfl, hb⟩
  have B10 := Lib.hid (B9.out.trans (hb.mono B9.out.size))
  have T10 := Lib.hid (T9.out.below hb)
  clear hb
  go_wp2_with fail
  (with_reducible refine Calls.mono (AB.out _) ?_)
  rintro e w' ⟨rfl, rfl⟩
  go_wp2_with fail
  (with_reducible refine Calls.mono (C1.out _) ?_)
  rintro e w11 ⟨rfl, hb⟩
  have B11 := Lib.hid (B10.out.trans (hb.mono B10.out.size))
  have T11 := Lib.hid (T10.out.below hb)
  clear hb
  go_wp2_with fail
  (with_reducible refine Calls.mono (PU.out _ T11.out) ?_)
  rintro e w12 ⟨rfl, hb⟩
  have B12 := Lib.hid (B11.out.trans (hb.mono B11.out.size))
  have T12 := Lib.hid (T11.out.below hb)
  clear hb
  go_wp2_with fail
  (with_reducible refine Calls.mono (AB.out _) ?_)
  rintro e w' ⟨rfl, rfl⟩
  go_wp2_with fail
  (with_reducible refine Calls.mono (C2.out _) ?_)
  rintro e w13 ⟨rfl, hb⟩
  have B13 := Lib.hid (B12.out.trans (hb.mono B12.out.size))
  have T13 := Lib.hid (T12.out.below hb)
  clear hb
  go_wp2_with fail
  (with_reducible refine Calls.mono (AW.out _ T13.out) ?_)
  rintro e w14 ⟨rfl, hb⟩
  have B14 := Lib.hid (B13.out.trans (hb.mono B13.out.size))
  have T14 := Lib.hid (T13.out.below hb)
  clear hb
  go_wp2
  go_ret
  exact ⟨rfl, B14.out⟩
end Go.Proofs.YtgeokeffondmhaaGreatDoor
