/-
  The law WholeExamples answers true: its first half, the texts that are no integers.
-/
import Derived.Test.YtgeokeffondmhaaGreatDoorZPowers
import Derived.Test.YtgeokeffondmhaaGreatDoorZsu
namespace Go.Proofs.YtgeokeffondmhaaGreatDoor
open Go.RowKit

/-- The texts that are no integers; T is that of 1001 digits. -/
def badTexts (T : ByteArray) : List ByteArray := [⟨#[]⟩, ⟨#[45]⟩, ⟨#[43, 49]⟩, ⟨#[45, 48]⟩, ⟨#[48, 48]⟩, ⟨#[48, 49]⟩, ⟨#[45, 48, 49]⟩, ⟨#[49, 32]⟩, ⟨#[32, 49]⟩, ⟨#[49, 46, 48]⟩, ⟨#[49, 101, 51]⟩, ⟨#[48, 120, 49]⟩, ⟨#[45, 45, 49]⟩, ⟨#[49, 45]⟩, ⟨#[255]⟩, T, ⟨#[45]⟩ ++ T]
theorem size1001 : (tx (Ten.bp 1001 - 1)).size = 1001 ∧ dn (Ten.bp 1001 - 1) = 1001 := by
  have h : ∀ n, 1 ≤ n → dn (Ten.bp n - 1) = n := by
    intro n h1
    have hp := Ten.bp_mono h1
    rw [Ten.bp_one] at hp
    rw [dn_ten (by omega)]
    obtain ⟨m, rfl⟩ : ∃ m, n = m + 1 := ⟨n - 1, by omega⟩
    refine Ten.nl_eq ?_ (by omega)
    rw [Ten.bp_succ]
    have := Ten.bp_pos m
    omega
  have hd := h 1001 (by omega)
  have hp := Ten.bp_pos 1001
  have hs := tx_size (Ten.bp 1001 - 1)
  rw [if_neg (by omega)] at hs
  exact ⟨by omega, hd⟩
theorem bad_ok (T : ByteArray) (hT : T = tx (Ten.bp 1001 - 1)) (k : Nat) (hk : k < 17) : ((badTexts T).getD k ⟨#[]⟩).size ≤ 1002 ∧ isT ((badTexts T).getD k ⟨#[]⟩).data.toList = false := by
  obtain ⟨hs, hd⟩ := size1001
  rw [← hT] at hs
  have hp := Ten.bp_mono (show 1 ≤ 1001 by omega)
  rw [Ten.bp_one] at hp
  have h1 : isT T.data.toList = false := by rw [hT]; exact isT_tx_no (by omega)
  have h2 : isT ((⟨#[45]⟩ : ByteArray) ++ T).data.toList = false := by
    rw [hT, tx_minus (by omega)]
    exact isT_tx_no (by rw [dn_neg]; omega)
  have h3 : ((⟨#[45]⟩ : ByteArray) ++ T).size ≤ 1002 := by
    rw [ByteArray.size_append]
    have : (⟨#[45]⟩ : ByteArray).size = 1 := rfl
    omega
  match k, hk with
  | 0, _ => exact ⟨by show (⟨#[]⟩ : ByteArray).size ≤ 1002; decide, by show isT (⟨#[]⟩ : ByteArray).data.toList = false; decide⟩
  | 1, _ => exact ⟨by show (⟨#[45]⟩ : ByteArray).size ≤ 1002; decide, by show isT (⟨#[45]⟩ : ByteArray).data.toList = false; decide⟩
  | 2, _ => exact ⟨by show (⟨#[43, 49]⟩ : ByteArray).size ≤ 1002; decide, by show isT (⟨#[43, 49]⟩ : ByteArray).data.toList = false; decide⟩
  | 3, _ => exact ⟨by show (⟨#[45, 48]⟩ : ByteArray).size ≤ 1002; decide, by show isT (⟨#[45, 48]⟩ : ByteArray).data.toList = false; decide⟩
  | 4, _ => exact ⟨by show (⟨#[48, 48]⟩ : ByteArray).size ≤ 1002; decide, by show isT (⟨#[48, 48]⟩ : ByteArray).data.toList = false; decide⟩
  | 5, _ => exact ⟨by show (⟨#[48, 49]⟩ : ByteArray).size ≤ 1002; decide, by show isT (⟨#[48, 49]⟩ : ByteArray).data.toList = false; decide⟩
  | 6, _ => exact ⟨by show (⟨#[45, 48, 49]⟩ : ByteArray).size ≤ 1002; decide, by show isT (⟨#[45, 48, 49]⟩ : ByteArray).data.toList = false; decide⟩
  | 7, _ => exact ⟨by show (⟨#[49, 32]⟩ : ByteArray).size ≤ 1002; decide, by show isT (⟨#[49, 32]⟩ : ByteArray).data.toList = false; decide⟩
  | 8, _ => exact ⟨by show (⟨#[32, 49]⟩ : ByteArray).size ≤ 1002; decide, by show isT (⟨#[32, 49]⟩ : ByteArray).data.toList = false; decide⟩
  | 9, _ => exact ⟨by show (⟨#[49, 46, 48]⟩ : ByteArray).size ≤ 1002; decide, by show isT (⟨#[49, 46, 48]⟩ : ByteArray).data.toList = false; decide⟩
  | 10, _ => exact ⟨by show (⟨#[49, 101, 51]⟩ : ByteArray).size ≤ 1002; decide, by show isT (⟨#[49, 101, 51]⟩ : ByteArray).data.toList = false; decide⟩
  | 11, _ => exact ⟨by show (⟨#[48, 120, 49]⟩ : ByteArray).size ≤ 1002; decide, by show isT (⟨#[48, 120, 49]⟩ : ByteArray).data.toList = false; decide⟩
  | 12, _ => exact ⟨by show (⟨#[45, 45, 49]⟩ : ByteArray).size ≤ 1002; decide, by show isT (⟨#[45, 45, 49]⟩ : ByteArray).data.toList = false; decide⟩
  | 13, _ => exact ⟨by show (⟨#[49, 45]⟩ : ByteArray).size ≤ 1002; decide, by show isT (⟨#[49, 45]⟩ : ByteArray).data.toList = false; decide⟩
  | 14, _ => exact ⟨by show (⟨#[255]⟩ : ByteArray).size ≤ 1002; decide, by show isT (⟨#[255]⟩ : ByteArray).data.toList = false; decide⟩
  | 15, _ => exact ⟨by show T.size ≤ 1002; omega, h1⟩
  | 16, _ => exact ⟨h3, h2⟩
  | k + 17, h => exact absurd h (by omega)
theorem Sum_two (A : ByteArray) (W : World) (hs : A.size ≤ 9223372036854775807) (ht : isT A.data.toList = false) :
    Calls Tryz.prog 36 #[.slice (some ⟨W.heap.size, 0, none⟩) 2 2] (W.alloc (.cells #[.string ⟨#[49]⟩, .string A] 22)) (GivesEr 1 (W.alloc (.cells #[.string ⟨#[49]⟩, .string A] 22))) := by
  obtain ⟨h0, h1⟩ := slot2_new W (.string ⟨#[49]⟩) (.string A) 22 W.heap.size rfl
  refine (Sum_any (some ⟨W.heap.size, 0, none⟩) 2 2 1 (fun j => if j = 0 then ⟨#[49]⟩ else A) (fun _ => 1) _ (by omega) (by omega) (by omega) (fun _ => ⟨W.heap.size, 0, rfl, h0.lt, fun j hj => ?_⟩) (fun j hj => ?_) (fun _ => ⟨hs, ht⟩)).mono fun e w' h => h.2 (by omega)
  · match j, hj with
    | 0, _ => exact h0.1
    | 1, _ => exact h1.1
  · obtain rfl : j = 0 := by omega
    exact ⟨t1.symm, by rw [dn_one]; omega⟩
theorem GivesJB.z {z : Int} {b : Bool} {w : World} {e : Ending} {w' : World} (h : GivesJB z b w e w') : e = .returned (.tuple #[.int .i64 z, .bool b]) ∧ Below w.heap.size w w' := h
theorem GivesX.long {z : Int} {w : World} {e : Ending} {w' : World} (h : GivesX z w e w') (hd : 1000 < dn z) : GivesE2 ⟨#[]⟩ 3 w e w' := by
  unfold GivesX at h
  rwa [if_neg (by omega), if_neg (by omega)] at h
theorem dn_ge_bp {x : Int} {k : Nat} (h : Ten.bp k ≤ x) : k < dn x := by
  have hp := Ten.bp_pos k
  rcases Nat.lt_or_ge k (dn x) with c | c
  · exact c
  · have h1 := dn_lt (x := x) (by omega)
    have h2 := Ten.bp_mono c
    omega
theorem dn_nines {n : Nat} (h1 : 1 ≤ n) : dn (Ten.bp n - 1) = n := by
  have hp := Ten.bp_mono h1
  rw [Ten.bp_one] at hp
  rw [dn_ten (by omega)]
  obtain ⟨m, rfl⟩ : ∃ m, n = m + 1 := ⟨n - 1, by omega⟩
  refine Ten.nl_eq ?_ (by omega)
  rw [Ten.bp_succ]
  have := Ten.bp_pos m
  omega
/-- 3 to a great power is long: 3 * 3 * 3 is more than 10. -/
theorem three_big : ∀ k, Ten.bp k ≤ 3 ^ (3 * k)
  | 0 => by rw [Ten.bp_zero]; decide
  | k + 1 => by
    have h := three_big k
    rw [Ten.bp_succ, show 3 * (k + 1) = 3 * k + 3 by omega, Int.pow_add]
    have h3 : (3 : Int) ^ 3 = 27 := by decide
    rw [h3]
    have := Ten.bp_pos k
    omega
theorem pow_mono3 {i j : Nat} (h : i ≤ j) : (3 : Int) ^ i ≤ 3 ^ j := by
  obtain ⟨d, rfl⟩ := Nat.exists_eq_add_of_le h
  rw [Int.pow_add]
  have h1 : (0 : Int) < 3 ^ i := Int.pow_pos (by decide)
  have h2 : (0 : Int) < 3 ^ d := Int.pow_pos (by decide)
  have := Int.mul_le_mul_of_nonneg_left (show (1 : Int) ≤ 3 ^ d by omega) (Int.le_of_lt h1)
  omega
theorem three_long {n : Nat} (h : 3000 ≤ n) : 1000 < dn ((3 : Int) ^ n) := dn_ge_bp (Int.le_trans (three_big 1000) (pow_mono3 (by omega)))
theorem neg_one_pow (k : Nat) : (-1 : Int) ^ (2 * k + 1) = -1 := by
  rw [Int.pow_succ, Int.pow_mul, show (-1 : Int) ^ 2 = 1 by decide, Int.one_pow]
  rfl
theorem bp_pow (k : Nat) : (10 : Int) ^ k = Ten.bp k := rfl
theorem bez04 {x y : Int} (h : Bez 0 (-4) x y) : x = 0 ∧ y = -1 := by
  obtain ⟨h1, h2, h3⟩ := h
  have e1 : per 0 (-4) = 1 := by decide
  have e2 : (Int.gcd 0 (-4) : Int) = 4 := by decide
  rw [e1] at h2
  rw [e2] at h3
  omega
/-- The variable that strconv's error reads holds an error, whatever is made behind. -/
def VR (w : World) : Prop := ∀ W, Below w.heap.size w W → ∃ tp p, W.var? Tryz.prog "strconv.ErrRange" = some #[.iface tp p]
theorem tm : tx (-9223372036854775808) = ⟨#[45, 57, 50, 50, 51, 51, 55, 50, 48, 51, 54, 56, 53, 52, 55, 55, 53, 56, 48, 56]⟩ := lit_tx (by simp [Lib.itoa, Lib.decDigits])
theorem tp8 : tx 9223372036854775808 = ⟨#[57, 50, 50, 51, 51, 55, 50, 48, 51, 54, 56, 53, 52, 55, 55, 53, 56, 48, 56]⟩ := lit_tx (by simp [Lib.itoa, Lib.decDigits])
theorem tm9 : tx (-9223372036854775809) = ⟨#[45, 57, 50, 50, 51, 51, 55, 50, 48, 51, 54, 56, 53, 52, 55, 55, 53, 56, 48, 57]⟩ := lit_tx (by simp [Lib.itoa, Lib.decDigits])
theorem tp7 : tx 9223372036854775807 = ⟨#[57, 50, 50, 51, 51, 55, 50, 48, 51, 54, 56, 53, 52, 55, 55, 53, 56, 48, 55]⟩ := lit_tx (by simp [Lib.itoa, Lib.decDigits])
theorem t10 : tx 10 = ⟨#[49, 48]⟩ := lit_tx (by simp [Lib.itoa, Lib.decDigits])
theorem t3 : tx 3 = ⟨#[51]⟩ := lit_tx (by simp [Lib.itoa, Lib.decDigits])
theorem t7 : tx 7 = ⟨#[55]⟩ := lit_tx (by simp [Lib.itoa, Lib.decDigits])
theorem tm2 : tx (-2) = ⟨#[45, 50]⟩ := lit_tx (by simp [Lib.itoa, Lib.decDigits])
theorem tm5 : tx (-5) = ⟨#[45, 53]⟩ := lit_tx (by simp [Lib.itoa, Lib.decDigits])
theorem t5 : tx 5 = ⟨#[53]⟩ := lit_tx (by simp [Lib.itoa, Lib.decDigits])
theorem t4 : tx 4 = ⟨#[52]⟩ := lit_tx (by simp [Lib.itoa, Lib.decDigits])
/-- The sum of n texts that stand in a new block. -/
theorem Sum_new (n : Nat) (S : Nat → ByteArray) (Z : Nat → Int) (W : World) (cs : Array Value) (t : TypeId) (hn : n ≤ 1000) (hc : ∀ j, j < n → cs[j]? = some (.string (S j))) (hz : ∀ j, j < n → S j = tx (Z j) ∧ dn (Z j) ≤ 1000) :
    Calls Tryz.prog 36 #[.slice (some ⟨W.heap.size, 0, none⟩) n n] (W.alloc (.cells cs t)) (GivesX (tot Z n) (W.alloc (.cells cs t))) :=
  (Sum_any (some ⟨W.heap.size, 0, none⟩) n n n S Z _ (by omega) hn (by omega) (fun _ => ⟨W.heap.size, 0, rfl, by rw [World.size_alloc]; omega, fun j hj => by rw [Nat.zero_add, World.cell?_alloc_at _ _ _ _ rfl]; exact hc j hj⟩) hz (fun h => absurd h (by omega))).mono fun e w' h => h.1 rfl
set_option maxHeartbeats 4000000 in
set_option maxRecDepth 100000 in
theorem examples_any (w : World) (tb : Tb w) (vr : VR w) :
    Calls Tryz.prog 8 #[] w fun e w' => e = .returned (.bool true) ∧ Below w.heap.size w w' := by
  have B0 := Lib.hid (Below.refl w.heap.size w)
  have T0 := Lib.hid tb
  have AW := Lib.hid (fun W (tb : Tb W) => awake_any W tb)
  have NI := Lib.hid (fun W => nines_any 1001 W (by omega) (by omega))
  obtain ⟨T, hT⟩ : ∃ T, T = tx (Ten.bp 1001 - 1) := ⟨_, rfl⟩
  rw [← hT] at NI
  have BO := Lib.hid (bad_ok T hT)
  have hsz : T.size = 1001 := by rw [hT]; exact size1001.1
  have hcat : ¬ 9223372036854775807 < 1 + T.size := by omega
  clear hT hsz
  go_enter Tryz.func8, Tryz.ntmps8
  go_wp2_with fail
  (with_reducible refine Calls.mono (AW.out _ T0.out) ?_)
  rintro e w1 ⟨rfl, hb⟩
  have B1 := Lib.hid (B0.out.trans (hb.mono B0.out.size))
  have T1 := Lib.hid (T0.out.below hb)
  clear hb
  go_wp2_with fail
  (with_reducible refine Calls.mono (NI.out _) ?_)
  rintro e w2 ⟨rfl, hb⟩
  have B2 := Lib.hid (B1.out.trans (hb.mono B1.out.size))
  have T2 := Lib.hid (T1.out.below hb)
  clear hb
  go_wp2_with fail
  (with_reducible refine Calls.mono (NI.out _) ?_)
  rintro e w3 ⟨rfl, hb⟩
  have B3 := Lib.hid (B2.out.trans (hb.mono B2.out.size))
  have T3 := Lib.hid (T2.out.below hb)
  clear hb
  have hz3 := B3.out.size
  have hcells : ∀ j, j < 17 → (w3.alloc (.cells #[.string ⟨#[]⟩, .string ⟨#[45]⟩, .string ⟨#[43, 49]⟩, .string ⟨#[45, 48]⟩, .string ⟨#[48, 48]⟩, .string ⟨#[48, 49]⟩, .string ⟨#[45, 48, 49]⟩, .string ⟨#[49, 32]⟩, .string ⟨#[32, 49]⟩, .string ⟨#[49, 46, 48]⟩, .string ⟨#[49, 101, 51]⟩, .string ⟨#[48, 120, 49]⟩, .string ⟨#[45, 45, 49]⟩, .string ⟨#[49, 45]⟩, .string ⟨#[255]⟩, .string T, .string (⟨#[45]⟩ ++ T)] 22)).cell? ⟨w3.heap.size, j, none⟩ = some (.string ((badTexts T).getD j ⟨#[]⟩)) := by
    intro j hj
    rw [World.cell?_alloc_at _ _ _ _ rfl]
    match j, hj with
    | 0, _ | 1, _ | 2, _ | 3, _ | 4, _ | 5, _ | 6, _ | 7, _ | 8, _ | 9, _ | 10, _ | 11, _ | 12, _ | 13, _ | 14, _ | 15, _ | 16, _ => rfl
    | k + 17, h => exact absurd h (by omega)
  have HCE := Lib.hid hcells
  have BA := Lib.hid (below_more (B3.out) (o := .cells #[.string ⟨#[]⟩, .string ⟨#[45]⟩, .string ⟨#[43, 49]⟩, .string ⟨#[45, 48]⟩, .string ⟨#[48, 48]⟩, .string ⟨#[48, 49]⟩, .string ⟨#[45, 48, 49]⟩, .string ⟨#[49, 32]⟩, .string ⟨#[32, 49]⟩, .string ⟨#[49, 46, 48]⟩, .string ⟨#[49, 101, 51]⟩, .string ⟨#[48, 120, 49]⟩, .string ⟨#[45, 45, 49]⟩, .string ⟨#[49, 45]⟩, .string ⟨#[255]⟩, .string T, .string (⟨#[45]⟩ ++ T)] 22))
  have KL := Lib.hid (show w3.heap.size < (w3.alloc (.cells #[.string ⟨#[]⟩, .string ⟨#[45]⟩, .string ⟨#[43, 49]⟩, .string ⟨#[45, 48]⟩, .string ⟨#[48, 48]⟩, .string ⟨#[48, 49]⟩, .string ⟨#[45, 48, 49]⟩, .string ⟨#[49, 32]⟩, .string ⟨#[32, 49]⟩, .string ⟨#[49, 46, 48]⟩, .string ⟨#[49, 101, 51]⟩, .string ⟨#[48, 120, 49]⟩, .string ⟨#[45, 45, 49]⟩, .string ⟨#[49, 45]⟩, .string ⟨#[255]⟩, .string T, .string (⟨#[45]⟩ ++ T)] 22)).heap.size by rw [World.size_alloc]; omega)
  clear hcells
  go_wp2_with fail
  generalize w3.alloc (.cells #[.string ⟨#[]⟩, .string ⟨#[45]⟩, .string ⟨#[43, 49]⟩, .string ⟨#[45, 48]⟩, .string ⟨#[48, 48]⟩, .string ⟨#[48, 49]⟩, .string ⟨#[45, 48, 49]⟩, .string ⟨#[49, 32]⟩, .string ⟨#[32, 49]⟩, .string ⟨#[49, 46, 48]⟩, .string ⟨#[49, 101, 51]⟩, .string ⟨#[48, 120, 49]⟩, .string ⟨#[45, 45, 49]⟩, .string ⟨#[49, 45]⟩, .string ⟨#[255]⟩, .string T, .string (⟨#[45]⟩ ++ T)] 22) = WA at *
  obtain ⟨K, hK⟩ : ∃ K, K = w3.heap.size := ⟨_, rfl⟩
  rw [← hK] at HCE KL ⊢
  have HK := Lib.hid hK
  clear hK hcat NI
  go_loopw [83] (fun i wr => ∃ k : Nat, k ≤ 17 ∧ i = .int .i64 k ∧ Below w.heap.size w wr ∧ Below WA.heap.size WA wr) (fun i _ => 17 - (intOf i).toNat)
  case atStart => exact ⟨0, by omega, rfl, BA.out, Below.refl _ _⟩
  case round =>
    obtain ⟨k, hk, rfl, hb, hwa⟩ := hrel
    have hcell : k < 17 → wr.cell? ⟨K, k, none⟩ = some (.string ((badTexts T).getD k ⟨#[]⟩)) := fun h => by
      have h2 := (below_at hwa k KL.out).trans (HCE.out k h)
      exact h2
    by_cases hlt : k < 17
    · have hcl := hcell hlt
      obtain ⟨hs, ht⟩ := BO.out k hlt
      obtain ⟨A, hA⟩ : ∃ A, A = (badTexts T).getD k ⟨#[]⟩ := ⟨_, rfl⟩
      rw [← hA] at hcl hs ht
      have hsm : A.size ≤ 9223372036854775807 := by omega
      have d1 : dn 1 ≤ 1000 := by rw [dn_one]; omega
      have d0 : dn 0 ≤ 1000 := by rw [dn_zero]; omega
      have q1 : (⟨#[49]⟩ : ByteArray).size ≤ 9223372036854775807 := by show 1 ≤ _; omega
      have q0 : (⟨#[48]⟩ : ByteArray).size ≤ 9223372036854775807 := by show 1 ≤ _; omega
      have qe : (⟨#[]⟩ : ByteArray).size ≤ 9223372036854775807 := by show 0 ≤ _; omega
      have C1 := Lib.hid (fun W => Add_bad A ⟨#[49]⟩ W hsm q1 (Or.inl ht))
      have C2 := Lib.hid (fun W => DivMod_bad A ⟨#[48]⟩ W hsm q0 (Or.inl ht))
      have C3 := Lib.hid (fun W => Gcd_bad ⟨#[49]⟩ A W q1 hsm (Or.inr ht))
      have C4 := Lib.hid (fun W => Bezout_bad A ⟨#[]⟩ W hsm qe (Or.inl ht))
      have C5 := Lib.hid (fun W => Pow_bad A 1 W hsm ht)
      have C6 := Lib.hid (fun W => Root_bad A W hsm ht)
      have C7 := Lib.hid (fun W => Sum_two A W hsm ht)
      have C8 := Lib.hid (fun W => Int64_bad A W hsm ht)
      have D1 := Lib.hid (fun W => Valid_bad A W hsm ht)
      have D2 := Lib.hid (fun W => Sign_bad A W hsm ht)
      have D3 := Lib.hid (fun W => Cmp_bad1 A ⟨#[49]⟩ W hsm q1 ht)
      have D4 := Lib.hid (fun W => Cmp_bad2 1 A W d1 hsm ht)
      have D5 := Lib.hid (fun W => Neg_bad A W hsm ht)
      have D6 := Lib.hid (fun W => Abs_bad A W hsm ht)
      rw [t1] at D4
      obtain ⟨E0, hE0⟩ : ∃ s, s = (⟨#[]⟩ : ByteArray) := ⟨_, rfl⟩
      have e0 : E0.toList = [] := by rw [hE0, Lib.toList_data]
      have HD5 := Lib.hid D5.out
      have HD6 := Lib.hid D6.out
      rw [← hE0] at HD5 HD6
      have hws := hb.size
      have R0 := Lib.hid hb
      have Q0 := Lib.hid hwa
      clear hcell hs ht hA hsm d1 d0 q1 q0 qe hE0 hb hwa D5 D6
      go_wp2_with fail
      (with_reducible refine Calls.mono (C1.out _) ?_)
      rintro e r1 ⟨rfl, hb⟩
      have R1 := Lib.hid (R0.out.trans (hb.mono R0.out.size))
      have Q1 := Lib.hid (Q0.out.trans (hb.mono Q0.out.size))
      clear hb
      go_wp2_with fail
      (with_reducible refine Calls.mono (C2.out _) ?_)
      rintro e r2 ⟨rfl, hb⟩
      have R2 := Lib.hid (R1.out.trans (hb.mono R1.out.size))
      have Q2 := Lib.hid (Q1.out.trans (hb.mono Q1.out.size))
      clear hb
      go_wp2_with fail
      (with_reducible refine Calls.mono (C3.out _) ?_)
      rintro e r3 ⟨rfl, hb⟩
      have R3 := Lib.hid (R2.out.trans (hb.mono R2.out.size))
      have Q3 := Lib.hid (Q2.out.trans (hb.mono Q2.out.size))
      clear hb
      go_wp2_with fail
      (with_reducible refine Calls.mono (C4.out _) ?_)
      rintro e r4 ⟨rfl, hb⟩
      have R4 := Lib.hid (R3.out.trans (hb.mono R3.out.size))
      have Q4 := Lib.hid (Q3.out.trans (hb.mono Q3.out.size))
      clear hb
      go_wp2_with fail
      (with_reducible refine Calls.mono (C5.out _) ?_)
      rintro e r5 ⟨rfl, hb⟩
      have R5 := Lib.hid (R4.out.trans (hb.mono R4.out.size))
      have Q5 := Lib.hid (Q4.out.trans (hb.mono Q4.out.size))
      clear hb
      go_wp2_with fail
      (with_reducible refine Calls.mono (C6.out _) ?_)
      rintro e r6 ⟨rfl, hb⟩
      have R6 := Lib.hid (R5.out.trans (hb.mono R5.out.size))
      have Q6 := Lib.hid (Q5.out.trans (hb.mono Q5.out.size))
      clear hb
      have M0 := Lib.hid (below_more R6.out (o := .cells #[.string ⟨#[49]⟩, .string A] 22))
      have M1 := Lib.hid (below_more Q6.out (o := .cells #[.string ⟨#[49]⟩, .string A] 22))
      go_wp2_with fail
      (with_reducible refine Calls.mono (C7.out _) ?_)
      rintro e r7 ⟨rfl, hb⟩
      have R7 := Lib.hid (M0.out.trans (hb.mono M0.out.size))
      have Q7 := Lib.hid (M1.out.trans (hb.mono M1.out.size))
      clear hb
      go_wp2_with fail
      (with_reducible refine Calls.mono (C8.out _) ?_)
      rintro e r8 ⟨rfl, hb⟩
      have R8 := Lib.hid (R7.out.trans (hb.mono R7.out.size))
      have Q8 := Lib.hid (Q7.out.trans (hb.mono Q7.out.size))
      clear hb
      go_wp2_with fail
      (with_reducible refine Calls.mono (D1.out _) ?_)
      rintro e w' ⟨rfl, rfl⟩
      go_wp2_with fail
      (with_reducible refine Calls.mono (D2.out _) ?_)
      rintro e w' ⟨rfl, rfl⟩
      go_wp2_with fail
      (with_reducible refine Calls.mono (D3.out _) ?_)
      rintro e r9 ⟨rfl, hb⟩
      have R9 := Lib.hid (R8.out.trans (hb.mono R8.out.size))
      have Q9 := Lib.hid (Q8.out.trans (hb.mono Q8.out.size))
      clear hb
      go_wp2_with fail
      (with_reducible refine Calls.mono (D4.out _) ?_)
      rintro e r10 ⟨rfl, hb⟩
      have R10 := Lib.hid (R9.out.trans (hb.mono R9.out.size))
      have Q10 := Lib.hid (Q9.out.trans (hb.mono Q9.out.size))
      clear hb
      go_wp2_with fail
      (with_reducible refine Calls.mono (HD5.out _) ?_)
      rintro e w' ⟨rfl, rfl⟩
      go_wp2_with fail
      (with_reducible refine Calls.mono (HD6.out _) ?_)
      rintro e w' ⟨rfl, rfl⟩
      go_wp2
      go_roundw
      case rel => exact ⟨k + 1, by omega, by go_num, R10.out, Q10.out⟩
      case measure => simp [intOf] <;> omega
    · have hkk : ¬ k < 17 := hlt
      have B100 := Lib.hid hb
      have T100 := Lib.hid (T0.out.below hb)
      have dw (z : Int) (h1 : -9223372036854775808 ≤ z) (h2 : z ≤ 9223372036854775807) : dn z ≤ 1000 := dn_word h1 h2
      have d9 := dn_nines (n := 1000) (by omega)
      have d5 := dn_nines (n := 500) (by omega)
      have d51 := dn_nines (n := 501) (by omega)
      have N9 := Lib.hid (fun W => nines_any 1000 W (by omega) (by omega))
      have N5 := Lib.hid (fun W => nines_any 500 W (by omega) (by omega))
      have N51 := Lib.hid (fun W => nines_any 501 W (by omega) (by omega))
      have AD := Lib.hid (fun W tb => (Add_tx (Ten.bp 1000 - 1) 1 W tb (by omega) (dw 1 (by omega) (by omega))).mono (fun _ _ h => h.long (dn_ge_bp (k := 1000) (by omega))))
      have SB := Lib.hid (fun W tb => (Sub_tx (Ten.bp 1000 - 1) (-1) W tb (by omega) (dw (-1) (by omega) (by omega))).mono (fun _ _ h => h.long (dn_ge_bp (k := 1000) (by omega))))
      have hml : Ten.bp 1000 ≤ (Ten.bp 500 - 1) * (Ten.bp 501 - 1) := by
        have e1 : Ten.bp 501 = 10 * Ten.bp 500 := Ten.bp_succ 500
        have e2 : Ten.bp 1000 = Ten.bp 500 * Ten.bp 500 := Ten.bp_add 500 500
        have e3 := Ten.bp_mono (show 2 ≤ 500 by omega)
        have e4 : Ten.bp 2 = 100 := by unfold Ten.bp; decide
        rw [e1, e2]
        rw [e4] at e3
        generalize Ten.bp 500 = q at *
        have h1 : (q - 1) * (10 * q - 1) = 10 * (q * q) - 11 * q + 1 := by grind
        have h2 : 100 * q ≤ q * q := Int.mul_le_mul_of_nonneg_right e3 (by omega)
        omega
      have ML := Lib.hid (fun W tb => (Mul_tx (Ten.bp 500 - 1) (Ten.bp 501 - 1) W tb (by omega) (by omega)).mono (fun _ _ h => h.long (dn_ge_bp (k := 1000) hml)))
      have dp9 : dn (Ten.bp 999) = 1000 := dn_bp 999
      have P1 := Lib.hid (fun W => (Pow_tx 10 999 W (dw 10 (by omega) (by omega)) (by omega)).mono (fun _ _ h => GivesX.ok h (by rw [bp_pow]; omega)))
      have P2 := Lib.hid (fun W => (Pow_tx 10 1000 W (dw 10 (by omega) (by omega)) (by omega)).mono (fun _ _ h => GivesX.long h (by rw [bp_pow, dn_bp]; omega)))
      have P3 := Lib.hid (fun W => Pow_neg 2 (-1) W (dw 2 (by omega) (by omega)) (by omega))
      obtain ⟨N62, hN62⟩ : ∃ n : Nat, n = 4611686018427387904 := ⟨_, rfl⟩
      have P4 := Lib.hid (fun W => (Pow_tx 3 N62 W (dw 3 (by omega) (by omega)) (by omega)).mono (fun _ _ h => GivesX.long h (three_long (by omega))))
      obtain ⟨H61, hH61⟩ : ∃ n : Nat, n = 2305843009213693952 := ⟨_, rfl⟩
      have P5 := Lib.hid (fun W => (Pow_tx (-1) (2 * H61 + 1) W (dw (-1) (by omega) (by omega)) (by omega)).mono (fun _ _ h => GivesX.ok h (by rw [neg_one_pow]; exact dw (-1) (by omega) (by omega))))
      rw [neg_one_pow] at P5
      rw [show ((N62 : Nat) : Int) = 4611686018427387904 by omega] at P4
      rw [show ((2 * H61 + 1 : Nat) : Int) = 4611686018427387905 by omega] at P5
      have P6 := Lib.hid (fun W => (Pow_tx 0 0 W (dw 0 (by omega) (by omega)) (by omega)).mono (fun _ _ h => GivesX.ok h (by rw [Int.pow_zero]; exact dw 1 (by omega) (by omega))))
      rw [Int.pow_zero] at P6
      have RT := Lib.hid (fun W => Root_neg (-1) W (dw (-1) (by omega) (by omega)) (by decide))
      have DV1 := Lib.hid (fun W tb => DivMod_tx 7 (-2) W tb (dw 7 (by omega) (by omega)) (dw (-2) (by omega) (by omega)) (by decide))
      rw [show Int.fdiv 7 (-2) = -4 by decide, show Int.fmod 7 (-2) = -1 by decide] at DV1
      have DV2 := Lib.hid (fun W tb => DivMod_tx 0 (-5) W tb (dw 0 (by omega) (by omega)) (dw (-5) (by omega) (by omega)) (by decide))
      rw [show Int.fdiv 0 (-5) = 0 by decide, show Int.fmod 0 (-5) = 0 by decide] at DV2
      have hcat9 : ((⟨#[45]⟩ : ByteArray) ++ tx (Ten.bp 1000 - 1)) = tx (-(Ten.bp 1000 - 1)) := tx_minus (by have := Ten.bp_mono (show 1 ≤ 1000 by omega); rw [Ten.bp_one] at this; omega)
      have SM1 := Lib.hid (fun W => (Sum_new 3 (fun j => if j = 2 then tx (-(Ten.bp 1000 - 1)) else tx (Ten.bp 1000 - 1)) (fun j => if j = 2 then -(Ten.bp 1000 - 1) else Ten.bp 1000 - 1) W #[.string (tx (Ten.bp 1000 - 1)), .string (tx (Ten.bp 1000 - 1)), .string (tx (-(Ten.bp 1000 - 1)))] 22 (by omega) (fun j hj => by match j, hj with | 0, _ | 1, _ | 2, _ => rfl) (fun j hj => by
        by_cases h : j = 2
        · rw [if_pos h, if_pos h]; exact ⟨rfl, by rw [dn_neg]; omega⟩
        · rw [if_neg h, if_neg h]; exact ⟨rfl, by omega⟩)).mono (fun _ _ h => by
          have e : tot (fun j => if j = 2 then -(Ten.bp 1000 - 1) else Ten.bp 1000 - 1) 3 = Ten.bp 1000 - 1 := by unfold tot; unfold tot; unfold tot; unfold tot; simp; omega
          rw [e] at h
          exact GivesX.ok h (by omega)))
      have SM2 := Lib.hid (fun W => (Sum_new 2 (fun j => if j = 1 then ⟨#[49]⟩ else tx (Ten.bp 1000 - 1)) (fun j => if j = 1 then 1 else Ten.bp 1000 - 1) W #[.string (tx (Ten.bp 1000 - 1)), .string ⟨#[49]⟩] 22 (by omega) (fun j hj => by match j, hj with | 0, _ | 1, _ => rfl) (fun j hj => by
        by_cases h : j = 1
        · rw [if_pos h, if_pos h]; exact ⟨t1.symm, dw 1 (by omega) (by omega)⟩
        · rw [if_neg h, if_neg h]; exact ⟨rfl, by omega⟩)).mono (fun _ _ h => by
          have e : tot (fun j => if j = 1 then 1 else Ten.bp 1000 - 1) 2 = Ten.bp 1000 := by unfold tot; unfold tot; unfold tot; simp
          rw [e] at h
          exact GivesX.long h (by rw [dn_bp]; omega)))
      have SM3 := Lib.hid (fun W => (Sum_any none 0 0 0 (fun _ => ⟨#[]⟩) (fun _ => 0) W (by omega) (by omega) (by omega) (fun h => absurd h (by omega)) (fun j hj => absurd hj (by omega)) (fun h => absurd h (by omega))).mono (fun _ _ h => GivesX.ok (h.1 rfl) (by unfold tot; exact dw 0 (by omega) (by omega))))
      rw [show tot (fun _ => 0) 0 = 0 by unfold tot; rfl] at SM3
      have I1 := Lib.hid (fun W => Int64_tx (-9223372036854775808) W (by omega) (by omega))
      have VRH := Lib.hid vr
      have I2 := Lib.hid (fun W (h : Below w.heap.size w W) => (show Calls Tryz.prog 9 #[.string (tx 9223372036854775808)] W (GivesJB 0 false W) from by obtain ⟨tp, p, hv⟩ := VRH.out W h; exact Int64_out 9223372036854775808 W (Nat.le_trans (dn_le (k := 20) (by omega) (by omega) (by unfold Ten.bp; decide)) (by omega)) (by omega) tp p hv))
      have I3 := Lib.hid (fun W (h : Below w.heap.size w W) => (show Calls Tryz.prog 9 #[.string (tx (-9223372036854775809))] W (GivesJB 0 false W) from by obtain ⟨tp, p, hv⟩ := VRH.out W h; exact Int64_out (-9223372036854775809) W (by rw [dn_neg]; exact Nat.le_trans (dn_le (k := 20) (by omega) (by omega) (by unfold Ten.bp; decide)) (by omega)) (by omega) tp p hv))
      have I4 := Lib.hid (fun W => Int64_tx 9223372036854775807 W (by omega) (by omega))
      have BE1 := Lib.hid (fun W tb => Bezout_zero 5 0 W tb (dw 5 (by omega) (by omega)) (dw 0 (by omega) (by omega)) rfl)
      have BE2 := Lib.hid (fun W => (show Calls Tryz.prog 46 #[.string (tx 0), .string (tx (-4))] W (GivesQ4 (tx 4) (tx 0) (tx (-1)) 0 W) from (Bezout_tx 0 (-4) W (dw 0 (by omega) (by omega)) (dw (-4) (by omega) (by omega)) (by decide)).mono (fun _ _ h => by
        obtain ⟨x', y', hb, he⟩ := h
        obtain ⟨rfl, rfl⟩ := bez04 hb
        exact he)))
      have BE3 := Lib.hid (fun W tb => Bezout_zero 0 0 W tb (dw 0 (by omega) (by omega)) (dw 0 (by omega) (by omega)) rfl)
      rw [show ((5 : Int).natAbs : Int) = 5 by decide, show sg 5 = 1 by decide] at BE1
      rw [show ((0 : Int).natAbs : Int) = 0 by decide, show sg 0 = 0 by decide] at BE3
      have OF := Lib.hid (fun W tb => of_any (-9223372036854775808) W tb (by omega) (by omega))
      have sP : (tx (Ten.bp 999)).size = 1000 := by
        have h := tx_size (Ten.bp 999)
        have := Ten.bp_pos 999
        rw [if_neg (by omega)] at h
        omega
      have s9 : (tx (Ten.bp 1000 - 1)).size = 1000 := by
        have h := tx_size (Ten.bp 1000 - 1)
        have := Ten.bp_pos 1000
        rw [if_neg (by omega)] at h
        omega
      obtain ⟨T9, hT9⟩ : ∃ s, s = tx (Ten.bp 1000 - 1) := ⟨_, rfl⟩
      obtain ⟨T9m, hT9m⟩ : ∃ s, s = tx (-(Ten.bp 1000 - 1)) := ⟨_, rfl⟩
      obtain ⟨T5, hT5⟩ : ∃ s, s = tx (Ten.bp 500 - 1) := ⟨_, rfl⟩
      obtain ⟨T51, hT51⟩ : ∃ s, s = tx (Ten.bp 501 - 1) := ⟨_, rfl⟩
      obtain ⟨TP, hTP⟩ : ∃ s, s = tx (Ten.bp 999) := ⟨_, rfl⟩
      rw [bp_pow] at P1
      rw [← hT9] at N9 AD SB SM1 SM2 hcat9 s9
      rw [← hT9m] at SM1 hcat9
      rw [← hT5] at N5 ML
      rw [← hT51] at N51 ML
      rw [← hTP] at P1 sP
      obtain ⟨E0, hE0⟩ : ∃ s, s = (⟨#[]⟩ : ByteArray) := ⟨_, rfl⟩
      obtain ⟨RM1, hRM1⟩ : ∃ s, s = (⟨#[45, 49]⟩ : ByteArray) := ⟨_, rfl⟩
      obtain ⟨R0, hR0⟩ : ∃ s, s = (⟨#[48]⟩ : ByteArray) := ⟨_, rfl⟩
      obtain ⟨R1, hR1⟩ : ∃ s, s = (⟨#[49]⟩ : ByteArray) := ⟨_, rfl⟩
      obtain ⟨RMI, hRMI⟩ : ∃ s, s = tx (-9223372036854775808) := ⟨_, rfl⟩
      rw [← hRMI] at OF
      rw [t1] at AD P6
      rw [tm1] at SB P5 RT DV1
      rw [t10] at P1 P2
      rw [t2] at P3
      rw [t3] at P4
      rw [t0lit] at P6 DV2 SM3 BE1 BE2 BE3
      rw [t7, tm2, tm4] at DV1
      rw [tm5] at DV2
      rw [tm] at I1
      rw [tp8] at I2
      rw [tm9] at I3
      rw [tp7] at I4
      rw [t5, t1] at BE1
      rw [tm4, t4, tm1] at BE2
      rw [← hcat9] at SM1
      rw [← hE0] at AD SB ML P2 P4 SM2
      have RT' : Hid (∀ W, Calls Tryz.prog 42 #[.string ⟨#[45, 49]⟩] W (GivesE2 E0 1 W)) := by rw [hE0]; exact RT
      have DV1' : Hid (∀ W, Tb W → Calls Tryz.prog 29 #[.string ⟨#[55]⟩, .string ⟨#[45, 50]⟩] W (GivesQr ⟨#[45, 52]⟩ RM1 0 W)) := by rw [hRM1]; exact DV1
      have DV2' : Hid (∀ W, Tb W → Calls Tryz.prog 29 #[.string ⟨#[48]⟩, .string ⟨#[45, 53]⟩] W (GivesQr ⟨#[48]⟩ R0 0 W)) := by rw [hR0]; exact DV2
      have BE1' : Hid (∀ W, Tb W → Calls Tryz.prog 46 #[.string ⟨#[53]⟩, .string ⟨#[48]⟩] W (GivesQ4 ⟨#[53]⟩ R1 R0 0 W)) := by rw [hR1, hR0]; exact BE1
      have BE2' : Hid (∀ W, Calls Tryz.prog 46 #[.string ⟨#[48]⟩, .string ⟨#[45, 52]⟩] W (GivesQ4 ⟨#[52]⟩ R0 RM1 0 W)) := by rw [hR0, hRM1]; exact BE2
      have BE3' : Hid (∀ W, Tb W → Calls Tryz.prog 46 #[.string ⟨#[48]⟩, .string ⟨#[48]⟩] W (GivesQ4 ⟨#[48]⟩ R0 R0 0 W)) := by rw [hR0]; exact BE3
      have e0 : E0.toList = [] := by rw [hE0, Lib.toList_data]
      have e1 : RM1.toList = [45, 49] := by rw [hRM1, Lib.toList_data]
      have e2 : R0.toList = [48] := by rw [hR0, Lib.toList_data]
      have e3 : R1.toList = [49] := by rw [hR1, Lib.toList_data]
      have e4 : RMI.toList = [45, 57, 50, 50, 51, 51, 55, 50, 48, 51, 54, 56, 53, 52, 55, 55, 53, 56, 48, 56] := by rw [hRMI, tm, Lib.toList_data]
      have hcat : ¬ 9223372036854775807 < 1 + T9.size := by omega
      have IY := Lib.hid (fun s W => is_yes s W)
      clear dw d9 d5 d51 hml dp9 hN62 hH61 hT9 hT9m hT5 hT51 hTP hE0 hRM1 hR0 hR1 hRMI hcat9 s9 RT DV1 DV2 BE1 BE2 BE3 
      clear hwa hcell hb vr
      go_wp2_with fail
      (with_reducible refine Calls.mono (N9.out _) ?_)
      rintro e w101 ⟨rfl, hb⟩
      have B101 := Lib.hid (B100.out.trans (hb.mono B100.out.size))
      have T101 := Lib.hid (T100.out.below hb)
      clear hb
      go_wp2_with fail
      (with_reducible refine Calls.mono (AD.out _ T101.out) ?_)
      rintro e w102 ⟨rfl, hb⟩
      have B102 := Lib.hid (B101.out.trans (hb.mono B101.out.size))
      have T102 := Lib.hid (T101.out.below hb)
      clear hb
      go_wp2_with fail
      (with_reducible refine Calls.mono (N9.out _) ?_)
      rintro e w103 ⟨rfl, hb⟩
      have B103 := Lib.hid (B102.out.trans (hb.mono B102.out.size))
      have T103 := Lib.hid (T102.out.below hb)
      clear hb
      go_wp2_with fail
      (with_reducible refine Calls.mono (SB.out _ T103.out) ?_)
      rintro e w104 ⟨rfl, hb⟩
      have B104 := Lib.hid (B103.out.trans (hb.mono B103.out.size))
      have T104 := Lib.hid (T103.out.below hb)
      clear hb
      go_wp2_with fail
      (with_reducible refine Calls.mono (N5.out _) ?_)
      rintro e w105 ⟨rfl, hb⟩
      have B105 := Lib.hid (B104.out.trans (hb.mono B104.out.size))
      have T105 := Lib.hid (T104.out.below hb)
      clear hb
      go_wp2_with fail
      (with_reducible refine Calls.mono (N51.out _) ?_)
      rintro e w106 ⟨rfl, hb⟩
      have B106 := Lib.hid (B105.out.trans (hb.mono B105.out.size))
      have T106 := Lib.hid (T105.out.below hb)
      clear hb
      go_wp2_with fail
      (with_reducible refine Calls.mono (ML.out _ T106.out) ?_)
      rintro e w107 ⟨rfl, hb⟩
      have B107 := Lib.hid (B106.out.trans (hb.mono B106.out.size))
      have T107 := Lib.hid (T106.out.below hb)
      clear hb
      go_wp2_with fail
      (with_reducible refine Calls.mono (P1.out _) ?_)
      rintro e w108 ⟨rfl, hb⟩
      have B108 := Lib.hid (B107.out.trans (hb.mono B107.out.size))
      have T108 := Lib.hid (T107.out.below hb)
      clear hb
      go_wp2_with fail
      (with_reducible refine Calls.mono (P2.out _) ?_)
      rintro e w109 ⟨rfl, hb⟩
      have B109 := Lib.hid (B108.out.trans (hb.mono B108.out.size))
      have T109 := Lib.hid (T108.out.below hb)
      clear hb
      go_wp2_with fail
      (with_reducible refine Calls.mono (P3.out _) ?_)
      rintro e w110 ⟨rfl, hb⟩
      have B110 := Lib.hid (B109.out.trans (hb.mono B109.out.size))
      have T110 := Lib.hid (T109.out.below hb)
      clear hb
      go_wp2_with fail
      (with_reducible refine Calls.mono (P4.out _) ?_)
      rintro e w111 ⟨rfl, hb⟩
      have B111 := Lib.hid (B110.out.trans (hb.mono B110.out.size))
      have T111 := Lib.hid (T110.out.below hb)
      clear hb
      go_wp2_with fail
      (with_reducible refine Calls.mono (P5.out _) ?_)
      rintro e w112 ⟨rfl, hb⟩
      have B112 := Lib.hid (B111.out.trans (hb.mono B111.out.size))
      have T112 := Lib.hid (T111.out.below hb)
      clear hb
      go_wp2_with fail
      (with_reducible refine Calls.mono (P6.out _) ?_)
      rintro e w113 ⟨rfl, hb⟩
      have B113 := Lib.hid (B112.out.trans (hb.mono B112.out.size))
      have T113 := Lib.hid (T112.out.below hb)
      clear hb
      go_wp2_with fail
      (with_reducible refine Calls.mono (RT'.out _) ?_)
      rintro e w114 ⟨rfl, hb⟩
      have B114 := Lib.hid (B113.out.trans (hb.mono B113.out.size))
      have T114 := Lib.hid (T113.out.below hb)
      clear hb
      go_wp2_with fail
      (with_reducible refine Calls.mono (DV1'.out _ T114.out) ?_)
      rintro e w115 ⟨rfl, hb⟩
      have B115 := Lib.hid (B114.out.trans (hb.mono B114.out.size))
      have T115 := Lib.hid (T114.out.below hb)
      clear hb
      go_wp2_with fail
      (with_reducible refine Calls.mono (DV2'.out _ T115.out) ?_)
      rintro e w116 ⟨rfl, hb⟩
      have B116 := Lib.hid (B115.out.trans (hb.mono B115.out.size))
      have T116 := Lib.hid (T115.out.below hb)
      clear hb
      go_wp2_with fail
      (with_reducible refine Calls.mono (IY.out _ _) ?_)
      rintro e w' ⟨rfl, rfl⟩
      go_wp2_with fail
      (with_reducible refine Calls.mono (IY.out _ _) ?_)
      rintro e w' ⟨rfl, rfl⟩
      go_wp2_with fail
      (with_reducible refine Calls.mono (IY.out _ _) ?_)
      rintro e w' ⟨rfl, rfl⟩
      go_wp2_with fail
      (with_reducible refine Calls.mono (IY.out _ _) ?_)
      rintro e w' ⟨rfl, rfl⟩
      go_wp2_with fail
      (with_reducible refine Calls.mono (N9.out _) ?_)
      rintro e w117 ⟨rfl, hb⟩
      have B117 := Lib.hid (B116.out.trans (hb.mono B116.out.size))
      have T117 := Lib.hid (T116.out.below hb)
      clear hb
      go_wp2_with fail
      (with_reducible refine Calls.mono (N9.out _) ?_)
      rintro e w118 ⟨rfl, hb⟩
      have B118 := Lib.hid (B117.out.trans (hb.mono B117.out.size))
      have T118 := Lib.hid (T117.out.below hb)
      clear hb
      go_wp2_with fail
      (with_reducible refine Calls.mono (N9.out _) ?_)
      rintro e w119 ⟨rfl, hb⟩
      have B119 := Lib.hid (B118.out.trans (hb.mono B118.out.size))
      have T119 := Lib.hid (T118.out.below hb)
      clear hb
      have M120 := Lib.hid (below_more B119.out (o := .cells #[.string T9, .string T9, .string (⟨#[45]⟩ ++ T9)] 22))
      go_wp2_with fail
      (with_reducible refine Calls.mono (SM1.out _) ?_)
      rintro e w120 ⟨rfl, hb⟩
      have B120 := Lib.hid (M120.out.trans (hb.mono M120.out.size))
      have T120 := Lib.hid (T0.out.below B120.out)
      clear hb
      go_wp2_with fail
      (with_reducible refine Calls.mono (N9.out _) ?_)
      rintro e w121 ⟨rfl, hb⟩
      have B121 := Lib.hid (B120.out.trans (hb.mono B120.out.size))
      have T121 := Lib.hid (T120.out.below hb)
      clear hb
      have M122 := Lib.hid (below_more B121.out (o := .cells #[.string T9, .string ⟨#[49]⟩] 22))
      go_wp2_with fail
      (with_reducible refine Calls.mono (SM2.out _) ?_)
      rintro e w122 ⟨rfl, hb⟩
      have B122 := Lib.hid (M122.out.trans (hb.mono M122.out.size))
      have T122 := Lib.hid (T0.out.below B122.out)
      clear hb
      go_wp2_with fail
      (with_reducible refine Calls.mono (SM3.out _) ?_)
      rintro e w123 ⟨rfl, hb⟩
      have B123 := Lib.hid (B122.out.trans (hb.mono B122.out.size))
      have T123 := Lib.hid (T122.out.below hb)
      clear hb
      go_wp2_with fail
      (with_reducible refine Calls.mono (N9.out _) ?_)
      rintro e w124 ⟨rfl, hb⟩
      have B124 := Lib.hid (B123.out.trans (hb.mono B123.out.size))
      have T124 := Lib.hid (T123.out.below hb)
      clear hb
      go_wp2_with fail
      (with_reducible refine Calls.mono (IY.out _ _) ?_)
      rintro e w' ⟨rfl, rfl⟩
      go_wp2_with fail
      (with_reducible refine Calls.mono (IY.out _ _) ?_)
      rintro e w' ⟨rfl, rfl⟩
      go_wp2_with fail
      (with_reducible refine Calls.mono (I1.out _) ?_)
      rintro e w125 ⟨rfl, hb⟩
      have B125 := Lib.hid (B124.out.trans (hb.mono B124.out.size))
      have T125 := Lib.hid (T124.out.below hb)
      clear hb
      go_wp2_with fail
      (with_reducible refine Calls.mono (I2.out _ B125.out) ?_)
      rintro e w126 ⟨rfl, hb⟩
      have B126 := Lib.hid (B125.out.trans (hb.mono B125.out.size))
      have T126 := Lib.hid (T125.out.below hb)
      clear hb
      go_wp2_with fail
      (with_reducible refine Calls.mono (I3.out _ B126.out) ?_)
      rintro e w127 ⟨rfl, hb⟩
      have B127 := Lib.hid (B126.out.trans (hb.mono B126.out.size))
      have T127 := Lib.hid (T126.out.below hb)
      clear hb
      go_wp2_with fail
      (with_reducible refine Calls.mono (I4.out _) ?_)
      rintro e w128 ⟨rfl, hb⟩
      have B128 := Lib.hid (B127.out.trans (hb.mono B127.out.size))
      have T128 := Lib.hid (T127.out.below hb)
      clear hb
      go_wp2_with fail
      (with_reducible refine Calls.mono (BE1'.out _ T128.out) ?_)
      rintro e w129 ⟨rfl, hb⟩
      have B129 := Lib.hid (B128.out.trans (hb.mono B128.out.size))
      have T129 := Lib.hid (T128.out.below hb)
      clear hb
      go_wp2_with fail
      (with_reducible refine Calls.mono (BE2'.out _) ?_)
      rintro e w130 ⟨rfl, hb⟩
      have B130 := Lib.hid (B129.out.trans (hb.mono B129.out.size))
      have T130 := Lib.hid (T129.out.below hb)
      clear hb
      go_wp2_with fail
      (with_reducible refine Calls.mono (BE3'.out _ T130.out) ?_)
      rintro e w131 ⟨rfl, hb⟩
      have B131 := Lib.hid (B130.out.trans (hb.mono B130.out.size))
      have T131 := Lib.hid (T130.out.below hb)
      clear hb
      go_wp2_with fail
      (with_reducible refine Calls.mono (OF.out _ T131.out) ?_)
      rintro e w132 ⟨rfl, hb⟩
      have B132 := Lib.hid (B131.out.trans (hb.mono B131.out.size))
      have T132 := Lib.hid (T131.out.below hb)
      clear hb
      go_wp2_with fail
      (with_reducible refine Calls.mono (IY.out _ _) ?_)
      rintro e w' ⟨rfl, rfl⟩
      go_wp2_with fail
      (with_reducible refine Calls.mono (IY.out _ _) ?_)
      rintro e w' ⟨rfl, rfl⟩
      go_wp2_with fail
      (with_reducible refine Calls.mono (IY.out _ _) ?_)
      rintro e w' ⟨rfl, rfl⟩
      go_wp2
      go_ret
      exact ⟨rfl, B132.out⟩
end Go.Proofs.YtgeokeffondmhaaGreatDoor
