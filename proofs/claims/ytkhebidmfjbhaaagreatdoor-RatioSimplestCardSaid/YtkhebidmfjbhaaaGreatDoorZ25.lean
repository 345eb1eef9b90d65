/-
  What whole.Valid, Sign, Neg and Abs return.
  The order of texts of one length is that of the numbers.
  What whole.Cmp returns.
  What the reference's trim returns. A row of ints holds the digits of a number, the lowest first.
  What the reference's text and Fit return.
  Rows of decimal digits that the call itself appends.
-/
import Derived.Test.YtkhebidmfjbhaaaGreatDoorZ05
import Derived.Laws.AppendOwnNone
import Derived.Deep.AppendLies
import Derived.Laws.OwnMore
namespace Go.Proofs.YtkhebidmfjbhaaaGreatDoor
open Go.RowKit

theorem td48 (n : Nat) : ((td n).toList == [48]) = decide (n = 0) := by
  rw [Lib.toList_data, td_list]
  by_cases h : n = 0
  · subst h
    rw [decide_eq_true rfl]
    have h1 := (dec_head_48 0).2 rfl
    have h2 : (Lib.decDigits 0).length = 1 := by rw [Lib.decDigits_length]; exact Lib.nDigits_small (by omega)
    rw [beq_iff_eq]
    cases hd : Lib.decDigits 0 with
    | nil => rw [hd] at h2; cases h2
    | cons a l =>
      rw [hd] at h1 h2
      have : l = [] := List.length_eq_zero_iff.1 (by simpa using h2)
      rw [this]
      simp at h1
      rw [h1]
  · rw [decide_eq_false h, beq_eq_false_iff_ne]
    intro e
    apply h
    rw [← dec_head_48, e]
    rfl
/-- A minus before a text. -/
theorem tx_minus {z : Int} (h : 0 < z) : ((⟨#[45]⟩ : ByteArray) ++ tx z) = tx (-z) := by
  apply ba_ext
  rw [tx_list]
  simp only [ByteArray.data_append, Array.toList_append, tx_list]
  unfold Lib.itoa
  rw [if_neg (by omega), if_pos (by omega), show -z = -z from rfl]
  simp
  congr 1
  omega
theorem Sign_pos (z : Int) (w : World) (hz : dn z ≤ 1000) (hp : 0 < z) :
    Calls Tryz.prog 73 #[.string (tx z)] w fun e w' => e = .returned (.int .i64 (1)) ∧ w = w' := by
  have hsp := split_tx z w hz
  rw [decide_eq_false (by omega)] at hsp
  have h48 := td48 z.natAbs
  rw [decide_eq_false (by omega)] at h48
  obtain ⟨D, hD⟩ : ∃ D, D = td z.natAbs := ⟨_, rfl⟩
  obtain ⟨T, hT⟩ : ∃ T, T = tx z := ⟨_, rfl⟩
  rw [← hT, ← hD] at hsp
  rw [← hD] at h48
  rw [← hT]
  have SP := Lib.hid hsp
  clear hsp hD hT
  go_enter Tryz.func73, Tryz.ntmps73
  go_wp2_with fail
  refine SP.out.mono ?_
  rintro e w' ⟨rfl, rfl⟩
  go_wp2
  go_ret
  exact ⟨rfl, rfl⟩
theorem Sign_zero (z : Int) (w : World) (hz : dn z ≤ 1000) (hp : z = 0) :
    Calls Tryz.prog 73 #[.string (tx z)] w fun e w' => e = .returned (.int .i64 (0)) ∧ w = w' := by
  have hsp := split_tx z w hz
  rw [decide_eq_false (by omega)] at hsp
  have h48 := td48 z.natAbs
  rw [decide_eq_true (by omega)] at h48
  obtain ⟨D, hD⟩ : ∃ D, D = td z.natAbs := ⟨_, rfl⟩
  obtain ⟨T, hT⟩ : ∃ T, T = tx z := ⟨_, rfl⟩
  rw [← hT, ← hD] at hsp
  rw [← hD] at h48
  rw [← hT]
  have SP := Lib.hid hsp
  clear hsp hD hT
  go_enter Tryz.func73, Tryz.ntmps73
  go_wp2_with fail
  refine SP.out.mono ?_
  rintro e w' ⟨rfl, rfl⟩
  go_wp2
  go_ret
  exact ⟨rfl, rfl⟩
theorem Sign_neg (z : Int) (w : World) (hz : dn z ≤ 1000) (hp : z < 0) :
    Calls Tryz.prog 73 #[.string (tx z)] w fun e w' => e = .returned (.int .i64 (-1)) ∧ w = w' := by
  have hsp := split_tx z w hz
  rw [decide_eq_true (by omega)] at hsp
  have h48 := td48 z.natAbs
  rw [decide_eq_false (by omega)] at h48
  obtain ⟨D, hD⟩ : ∃ D, D = td z.natAbs := ⟨_, rfl⟩
  obtain ⟨T, hT⟩ : ∃ T, T = tx z := ⟨_, rfl⟩
  rw [← hT, ← hD] at hsp
  rw [← hD] at h48
  rw [← hT]
  have SP := Lib.hid hsp
  clear hsp hD hT
  go_enter Tryz.func73, Tryz.ntmps73
  go_wp2_with fail
  refine SP.out.mono ?_
  rintro e w' ⟨rfl, rfl⟩
  go_wp2
  go_ret
  exact ⟨rfl, rfl⟩
theorem Sign_tx (z : Int) (w : World) (hz : dn z ≤ 1000) : Calls Tryz.prog 73 #[.string (tx z)] w fun e w' => e = .returned (.int .i64 (sg z)) ∧ w = w' := by
  unfold sg
  by_cases h : z < 0
  · rw [if_pos h]; exact Sign_neg z w hz h
  · rw [if_neg h]
    by_cases h0 : z = 0
    · rw [if_pos h0]; exact Sign_zero z w hz h0
    · rw [if_neg h0]; exact Sign_pos z w hz (by omega)
theorem Neg_pos (z : Int) (w : World) (hz : dn z ≤ 1000) (hp : 0 < z) :
    Calls Tryz.prog 89 #[.string (tx z)] w fun e w' => e = .returned (.string (tx (-z))) ∧ w = w' := by
  have hsp := split_tx z w hz
  rw [decide_eq_false (by omega)] at hsp
  have h48 := td48 z.natAbs
  rw [decide_eq_false (by omega)] at h48
  rw [← tx_minus hp]
  have h9 : ¬ 9223372036854775807 < 1 + (tx z).size := by have := tx_le hz; omega
  obtain ⟨D, hD⟩ : ∃ D, D = td z.natAbs := ⟨_, rfl⟩
  obtain ⟨T, hT⟩ : ∃ T, T = tx z := ⟨_, rfl⟩
  rw [← hT, ← hD] at hsp
  rw [← hD] at h48
  rw [← hT] at h9 ⊢
  have SP := Lib.hid hsp
  clear hsp hD hT
  go_enter Tryz.func89, Tryz.ntmps89
  go_wp2_with fail
  refine SP.out.mono ?_
  rintro e w' ⟨rfl, rfl⟩
  go_wp2
  go_ret
  exact ⟨rfl, rfl⟩
theorem Neg_zero (z : Int) (w : World) (hz : dn z ≤ 1000) (hp : z = 0) :
    Calls Tryz.prog 89 #[.string (tx z)] w fun e w' => e = .returned (.string (tx (-z))) ∧ w = w' := by
  have hsp := split_tx z w hz
  rw [decide_eq_false (by omega)] at hsp
  have h48 := td48 z.natAbs
  rw [decide_eq_true (by omega)] at h48
  rw [show tx (-z) = td z.natAbs by rw [tx_pos (by omega), Int.natAbs_neg]]
  obtain ⟨D, hD⟩ : ∃ D, D = td z.natAbs := ⟨_, rfl⟩
  obtain ⟨T, hT⟩ : ∃ T, T = tx z := ⟨_, rfl⟩
  rw [← hT, ← hD] at hsp
  rw [← hD] at h48
  rw [← hT, ← hD]
  have SP := Lib.hid hsp
  clear hsp hD hT
  go_enter Tryz.func89, Tryz.ntmps89
  go_wp2_with fail
  refine SP.out.mono ?_
  rintro e w' ⟨rfl, rfl⟩
  go_wp2
  go_ret
  exact ⟨rfl, rfl⟩
theorem Neg_neg (z : Int) (w : World) (hz : dn z ≤ 1000) (hp : z < 0) :
    Calls Tryz.prog 89 #[.string (tx z)] w fun e w' => e = .returned (.string (tx (-z))) ∧ w = w' := by
  have hsp := split_tx z w hz
  rw [decide_eq_true (by omega)] at hsp
  have h48 := td48 z.natAbs
  rw [decide_eq_false (by omega)] at h48
  rw [show tx (-z) = td z.natAbs by rw [tx_pos (by omega), Int.natAbs_neg]]
  obtain ⟨D, hD⟩ : ∃ D, D = td z.natAbs := ⟨_, rfl⟩
  obtain ⟨T, hT⟩ : ∃ T, T = tx z := ⟨_, rfl⟩
  rw [← hT, ← hD] at hsp
  rw [← hD] at h48
  rw [← hT, ← hD]
  have SP := Lib.hid hsp
  clear hsp hD hT
  go_enter Tryz.func89, Tryz.ntmps89
  go_wp2_with fail
  refine SP.out.mono ?_
  rintro e w' ⟨rfl, rfl⟩
  go_wp2
  go_ret
  exact ⟨rfl, rfl⟩
theorem Neg_tx (z : Int) (w : World) (hz : dn z ≤ 1000) : Calls Tryz.prog 89 #[.string (tx z)] w fun e w' => e = .returned (.string (tx (-z))) ∧ w = w' := by
  rcases Int.lt_trichotomy z 0 with h | h | h
  · exact Neg_neg z w hz h
  · exact Neg_zero z w hz h
  · exact Neg_pos z w hz h
theorem Abs_tx (z : Int) (w : World) (hz : dn z ≤ 1000) : Calls Tryz.prog 76 #[.string (tx z)] w fun e w' => e = .returned (.string (tx z.natAbs)) ∧ w = w' := by
  have hsp := split_tx z w hz
  obtain ⟨b, hb⟩ : ∃ b, b = decide (z < 0) := ⟨_, rfl⟩
  rw [show tx (z.natAbs : Int) = td z.natAbs by rw [tx_pos (by omega)]; simp]
  obtain ⟨D, hD⟩ : ∃ D, D = td z.natAbs := ⟨_, rfl⟩
  obtain ⟨T, hT⟩ : ∃ T, T = tx z := ⟨_, rfl⟩
  rw [← hT, ← hD, ← hb] at hsp
  rw [← hT, ← hD]
  have SP := Lib.hid hsp
  clear hsp hD hT hb
  go_enter Tryz.func76, Tryz.ntmps76
  go_wp2_with fail
  refine SP.out.mono ?_
  rintro e w' ⟨rfl, rfl⟩
  go_wp2
  go_ret
  exact ⟨rfl, rfl⟩
theorem Valid_tx (z : Int) (w : World) (hz : dn z ≤ 1000) : Calls Tryz.prog 157 #[.string (tx z)] w fun e w' => e = .returned (.bool true) ∧ w = w' := by
  have hsp := split_tx z w hz
  obtain ⟨b, hb⟩ : ∃ b, b = decide (z < 0) := ⟨_, rfl⟩
  obtain ⟨D, hD⟩ : ∃ D, D = td z.natAbs := ⟨_, rfl⟩
  obtain ⟨T, hT⟩ : ∃ T, T = tx z := ⟨_, rfl⟩
  rw [← hT, ← hD, ← hb] at hsp
  rw [← hT]
  have SP := Lib.hid hsp
  clear hsp hD hT hb
  go_enter Tryz.func157, Tryz.ntmps157
  go_wp2_with fail
  refine SP.out.mono ?_
  rintro e w' ⟨rfl, rfl⟩
  go_wp2
  go_ret
  exact ⟨rfl, rfl⟩
theorem Valid_bad (s : ByteArray) (w : World) (hm : s.size ≤ 9223372036854775807) (h : isT s.data.toList = false) :
    Calls Tryz.prog 157 #[.string s] w fun e w' => e = .returned (.bool false) ∧ w = w' := by
  have SP := Lib.hid (split_no s w hm h)
  clear h
  go_enter Tryz.func157, Tryz.ntmps157
  go_wp2_with fail
  refine SP.out.mono ?_
  rintro e w' ⟨rfl, rfl⟩
  go_wp2
  go_ret
  exact ⟨rfl, rfl⟩
end Go.Proofs.YtkhebidmfjbhaaaGreatDoor
namespace Go.Proofs.YtkhebidmfjbhaaaGreatDoor
open Go.RowKit
open Go.Lib

theorem cb_cons (x y : UInt8) (a b : List UInt8) : compareBytes (x :: a) (y :: b) = if x < y then -1 else if y < x then 1 else compareBytes a b := rfl
theorem cb_snoc (c e : UInt8) : ∀ (a b : List UInt8), a.length = b.length → (compareBytes a b = 0 → compareBytes (a ++ [c]) (b ++ [e]) = compareBytes [c] [e]) ∧ (compareBytes a b ≠ 0 → compareBytes (a ++ [c]) (b ++ [e]) = compareBytes a b) := by
  intro a
  induction a with
  | nil =>
    intro b h
    cases b with
    | nil => exact ⟨fun _ => rfl, fun h => absurd rfl h⟩
    | cons _ _ => cases h
  | cons x a ih =>
    intro b h
    cases b with
    | nil => cases h
    | cons y b =>
      obtain ⟨i1, i2⟩ := ih b (by simpa using h)
      rw [List.cons_append, List.cons_append, cb_cons x y a b, cb_cons x y (a ++ [c]) (b ++ [e])]
      by_cases h1 : x < y
      · rw [if_pos h1, if_pos h1]; exact ⟨fun h => (by cases h), fun _ => rfl⟩
      · rw [if_neg h1, if_neg h1]
        by_cases h2 : y < x
        · rw [if_pos h2, if_pos h2]; exact ⟨fun h => (by cases h), fun _ => rfl⟩
        · rw [if_neg h2, if_neg h2]; exact ⟨i1, i2⟩
theorem cb_one (c e : UInt8) : compareBytes [c] [e] = cmp3 c.toNat e.toNat := by
  rw [cb_cons]
  rcases Nat.lt_trichotomy c.toNat e.toNat with h | h | h
  · rw [cmp3_lt (by omega), if_pos (UInt8.lt_iff_toNat_lt.2 h)]
  · have : c = e := UInt8.toNat_inj.1 h
    subst this
    have h1 : ¬ c < c := fun h => by have := UInt8.lt_iff_toNat_lt.1 h; omega
    rw [if_neg h1, if_neg h1, cmp3_eq]; rfl
  · have h1 : ¬ c < e := fun h2 => by have := UInt8.lt_iff_toNat_lt.1 h2; omega
    rw [if_neg h1, if_pos (UInt8.lt_iff_toNat_lt.2 h), cmp3_gt (by omega)]
theorem cb_vald : ∀ (n : Nat) (a b : List UInt8), a.length = n → b.length = n → (∀ c ∈ a, isDig c = true) → (∀ c ∈ b, isDig c = true) → compareBytes a b = cmp3 (vald a) (vald b) := by
  intro n
  induction n with
  | zero =>
    intro a b ha hb _ _
    rw [List.length_eq_zero_iff.1 ha, List.length_eq_zero_iff.1 hb]
    rw [cmp3_eq]
    rfl
  | succ n ih =>
    intro a b ha hb hda hdb
    rcases List.eq_nil_or_concat a with h | ⟨a', c, h⟩
    · subst h; cases ha
    rcases List.eq_nil_or_concat b with h2 | ⟨b', e, h2⟩
    · subst h2; cases hb
    rw [List.concat_eq_append] at h h2
    subst h h2
    rw [List.length_append, List.length_singleton] at ha hb
    have hc := hda c (by simp)
    have he := hdb e (by simp)
    unfold isDig at hc he
    simp at hc he
    obtain ⟨i1, i2⟩ := cb_snoc c e a' b' (by omega)
    have hi := ih a' b' (by omega) (by omega) (fun x hx => hda x (by simp [hx])) (fun x hx => hdb x (by simp [hx]))
    rw [vald_snoc, vald_snoc]
    rcases Nat.lt_trichotomy (vald a') (vald b') with h | h | h
    · rw [cmp3_lt (x := (vald a' : Int)) (by omega)] at hi
      rw [i2 (by omega), hi, cmp3_lt (by omega)]
    · rw [h, cmp3_eq] at hi
      rw [i1 hi, cb_one]
      rcases Nat.lt_trichotomy c.toNat e.toNat with h1 | h1 | h1
      · rw [cmp3_lt (by omega), cmp3_lt (by omega)]
      · rw [h1, h, cmp3_eq, cmp3_eq]
      · rw [cmp3_gt (by omega), cmp3_gt (by omega)]
    · rw [cmp3_gt (x := (vald a' : Int)) (by omega)] at hi
      rw [i2 (by omega), hi, cmp3_gt (by omega)]
theorem vald_dec (n : Nat) : vald (decDigits n) = n := by
  apply decDigits_inj
  refine dec_vald _ _ rfl (dec_ne n) (dec_all n) (fun h => ?_)
  rw [dec_head_48] at h
  rw [h, decDigits_length]
  exact nDigits_small (by omega)
theorem cb_td (m n : Nat) (h : (td m).size = (td n).size) : compareBytes (td m).data.toList (td n).data.toList = cmp3 m n := by
  rw [td_size, td_size] at h
  rw [td_list, td_list, cb_vald (nDigits m) _ _ (decDigits_length m) (by rw [decDigits_length, h]) (dec_all m) (dec_all n), vald_dec, vald_dec]
/-- More digits make the greater number. -/
theorem td_lt {m n : Nat} (h : (td m).size < (td n).size) : m < n := by
  rw [td_size, td_size] at h
  rcases Nat.lt_or_ge m n with h1 | h1
  · exact h1
  · have := dn_mono (x := (n : Int)) (y := (m : Int)) (by omega) (by omega)
    unfold dn at this
    simp at this
    omega
end Go.Proofs.YtkhebidmfjbhaaaGreatDoor
namespace Go.Proofs.YtkhebidmfjbhaaaGreatDoor
open Go.RowKit

theorem or_ne (g : Nat) (a b : Int) (w : World) (h0 : w.cell? ⟨g, 0, none⟩ = some (.int .i64 a)) (_h1 : w.cell? ⟨g, 1, none⟩ = some (.int .i64 b)) (ha : a ≠ 0) :
    Calls Tryz.prog 166 #[.slice (some ⟨g, 0, none⟩) 2 2] w fun e w' => e = .returned (.int .i64 a) ∧ w = w' := by
  have hb : (a != 0) = true := bne_iff_ne.2 ha
  go_enter Tryz.func166, Tryz.ntmps166
  go_wp2
  go_loop [8] (fun i => i = .int .i64 0) (fun _ => 0)
  case atStart => rfl
  case round =>
    obtain rfl := hrel
    go_wp2
    go_ret
    exact ⟨rfl, rfl⟩
theorem or_zero (g : Nat) (b : Int) (w : World) (h0 : w.cell? ⟨g, 0, none⟩ = some (.int .i64 0)) (h1 : w.cell? ⟨g, 1, none⟩ = some (.int .i64 b)) :
    Calls Tryz.prog 166 #[.slice (some ⟨g, 0, none⟩) 2 2] w fun e w' => e = .returned (.int .i64 b) ∧ w = w' := by
  go_enter Tryz.func166, Tryz.ntmps166
  go_wp2
  go_loop [8] (fun i => i = .int .i64 0 ∨ i = .int .i64 1 ∨ (i = .int .i64 2 ∧ b = 0)) (fun i => 2 - (intOf i).toNat)
  case atStart => exact .inl rfl
  case round =>
    rcases hrel with rfl | rfl | ⟨rfl, hb⟩
    · go_wp2
      go_round
      case rel => exact .inr (.inl rfl)
      case measure => simp [intOf]
    · by_cases hb : b = 0
      · subst hb
        go_wp2
        go_round
        case rel => exact .inr (.inr ⟨rfl, trivial⟩)
        case measure => simp [intOf]
      · have hb2 : (b != 0) = true := bne_iff_ne.2 hb
        go_wp2
        go_ret
        exact ⟨rfl, rfl⟩
    · subst hb
      go_wp2
      go_ret
      exact ⟨rfl, rfl⟩
/-- What Or returns of two numbers. -/
theorem or_any (g : Nat) (a b : Int) (w : World) (h0 : w.cell? ⟨g, 0, none⟩ = some (.int .i64 a)) (h1 : w.cell? ⟨g, 1, none⟩ = some (.int .i64 b)) :
    Calls Tryz.prog 166 #[.slice (some ⟨g, 0, none⟩) 2 2] w fun e w' => e = .returned (.int .i64 (if a = 0 then b else a)) ∧ w = w' := by
  by_cases ha : a = 0
  · rw [if_pos ha]; subst ha; exact or_zero g b w h0 h1
  · rw [if_neg ha]; exact or_ne g a b w h0 h1 ha
theorem cmp_td (m n : Nat) : (if cmp3 (td m).size (td n).size = 0 then Lib.compareBytes (td m).data.toList (td n).data.toList else cmp3 (td m).size (td n).size) = cmp3 m n := by
  rcases Nat.lt_trichotomy (td m).size (td n).size with h | h | h
  · rw [cmp3_lt (by omega), if_neg (by omega), cmp3_lt (by have := td_lt h; omega)]
  · rw [h, cmp3_eq, if_pos rfl, cb_td m n h]
  · rw [cmp3_gt (by omega), if_neg (by omega), cmp3_gt (by have := td_lt h; omega)]
theorem Cmp_ft (x y : Int) (w : World) (hx : dn x ≤ 1000) (hy : dn y ≤ 1000) (hsx : decide (x < 0) = false) (hsy : decide (y < 0) = true) :
    Calls Tryz.prog 129 #[.string (tx x), .string (tx y)] w (GivesJ (1) w) := by
  have hs1 := split_tx x w hx
  have hs2 := split_tx y w hy
  rw [hsx] at hs1
  rw [hsy] at hs2
  obtain ⟨D, hD⟩ : ∃ D, D = td x.natAbs := ⟨_, rfl⟩
  obtain ⟨E, hE⟩ : ∃ E, E = td y.natAbs := ⟨_, rfl⟩
  obtain ⟨X, hX⟩ : ∃ X, X = tx x := ⟨_, rfl⟩
  obtain ⟨Y, hY⟩ : ∃ Y, Y = tx y := ⟨_, rfl⟩
  rw [← hX, ← hD] at hs1
  rw [← hY, ← hE] at hs2
  rw [← hX, ← hY]
  have S1 := Lib.hid hs1
  have S2 := Lib.hid hs2
  clear hs1 hs2 hsx hsy hX hY hD hE
  go_enter Tryz.func129, Tryz.ntmps129
  go_wp2_with fail
  refine S1.out.mono ?_
  rintro e w' ⟨rfl, rfl⟩
  go_wp2_with fail
  refine S2.out.mono ?_
  rintro e w' ⟨rfl, rfl⟩
  go_wp2
  go_ret
  exact ⟨rfl, Below.refl _ _⟩
theorem Cmp_tf (x y : Int) (w : World) (hx : dn x ≤ 1000) (hy : dn y ≤ 1000) (hsx : decide (x < 0) = true) (hsy : decide (y < 0) = false) :
    Calls Tryz.prog 129 #[.string (tx x), .string (tx y)] w (GivesJ (-1) w) := by
  have hs1 := split_tx x w hx
  have hs2 := split_tx y w hy
  rw [hsx] at hs1
  rw [hsy] at hs2
  obtain ⟨D, hD⟩ : ∃ D, D = td x.natAbs := ⟨_, rfl⟩
  obtain ⟨E, hE⟩ : ∃ E, E = td y.natAbs := ⟨_, rfl⟩
  obtain ⟨X, hX⟩ : ∃ X, X = tx x := ⟨_, rfl⟩
  obtain ⟨Y, hY⟩ : ∃ Y, Y = tx y := ⟨_, rfl⟩
  rw [← hX, ← hD] at hs1
  rw [← hY, ← hE] at hs2
  rw [← hX, ← hY]
  have S1 := Lib.hid hs1
  have S2 := Lib.hid hs2
  clear hs1 hs2 hsx hsy hX hY hD hE
  go_enter Tryz.func129, Tryz.ntmps129
  go_wp2_with fail
  refine S1.out.mono ?_
  rintro e w' ⟨rfl, rfl⟩
  go_wp2_with fail
  refine S2.out.mono ?_
  rintro e w' ⟨rfl, rfl⟩
  go_wp2
  go_ret
  exact ⟨rfl, Below.refl _ _⟩
theorem Cmp_ff (x y : Int) (w : World) (hx : dn x ≤ 1000) (hy : dn y ≤ 1000) (hsx : decide (x < 0) = false) (hsy : decide (y < 0) = false) :
    Calls Tryz.prog 129 #[.string (tx x), .string (tx y)] w (GivesJ (cmp3 (x.natAbs : Int) (y.natAbs : Int)) w) := by
  have hs1 := split_tx x w hx
  have hs2 := split_tx y w hy
  rw [hsx] at hs1
  rw [hsy] at hs2
  have hcm := cmp_td x.natAbs y.natAbs
  have hd1 : (td x.natAbs).size ≤ 1000 := by rw [td_size]; exact hx
  have hd2 : (td y.natAbs).size ≤ 1000 := by rw [td_size]; exact hy
  obtain ⟨D, hD⟩ : ∃ D, D = td x.natAbs := ⟨_, rfl⟩
  obtain ⟨E, hE⟩ : ∃ E, E = td y.natAbs := ⟨_, rfl⟩
  obtain ⟨X, hX⟩ : ∃ X, X = tx x := ⟨_, rfl⟩
  obtain ⟨Y, hY⟩ : ∃ Y, Y = tx y := ⟨_, rfl⟩
  rw [← hX, ← hD] at hs1
  rw [← hY, ← hE] at hs2
  rw [← hX, ← hY]
  rw [← hD, ← hE] at hcm
  rw [← hD] at hd1
  rw [← hE] at hd2
  obtain ⟨c, hc⟩ : ∃ c, c = Lib.compareBytes D.data.toList E.data.toList := ⟨_, rfl⟩
  obtain ⟨d, hd⟩ : ∃ d, d = cmp3 (D.size : Int) (E.size : Int) := ⟨_, rfl⟩
  obtain ⟨r, hr⟩ : ∃ r, r = cmp3 (x.natAbs : Int) (y.natAbs : Int) := ⟨_, rfl⟩
  have hr1 : -1 ≤ r ∧ r ≤ 1 := by rw [hr]; unfold cmp3; split <;> (first | omega | (split <;> omega))
  rw [← hd, ← hc, ← hr] at hcm
  rw [← hr]
  have hsc := Tryz.strings_Compare D E w
  rw [← hc] at hsc
  have hci := cmpI_any (D.size : Int) (E.size : Int) w
  rw [← hd] at hci
  have hor := fun g W h0 h1 => or_any g d c W h0 h1
  rw [hcm] at hor
  have SC := Lib.hid hsc
  have CI := Lib.hid hci
  have OR := Lib.hid hor
  have NW := Lib.hid (cell2_new w (.int .i64 d) (.int .i64 c) 3)
  have B0 := Lib.hid (alloc_below' w (.cells #[.int .i64 d, .int .i64 c] 3))
  clear hcm hc hd hsc hci hor hr
  have S1 := Lib.hid hs1
  have S2 := Lib.hid hs2
  clear hs1 hs2 hsx hsy hX hY hD hE
  go_enter Tryz.func129, Tryz.ntmps129
  go_wp2_with fail
  refine S1.out.mono ?_
  rintro e w' ⟨rfl, rfl⟩
  go_wp2_with fail
  refine S2.out.mono ?_
  rintro e w' ⟨rfl, rfl⟩
  go_wp2_with fail
  refine CI.out.mono ?_
  rintro e w' ⟨rfl, rfl⟩
  go_wp2_with fail
  refine SC.out.mono ?_
  rintro e w' ⟨rfl, rfl⟩
  go_wp2_with fail
  refine (OR.out _ _ NW.out.1 NW.out.2).mono ?_
  rintro e w' ⟨rfl, rfl⟩
  go_wp2
  go_ret
  exact ⟨rfl, B0.out⟩
theorem Cmp_tt (x y : Int) (w : World) (hx : dn x ≤ 1000) (hy : dn y ≤ 1000) (hsx : decide (x < 0) = true) (hsy : decide (y < 0) = true) :
    Calls Tryz.prog 129 #[.string (tx x), .string (tx y)] w (GivesJ (-cmp3 (x.natAbs : Int) (y.natAbs : Int)) w) := by
  have hs1 := split_tx x w hx
  have hs2 := split_tx y w hy
  rw [hsx] at hs1
  rw [hsy] at hs2
  have hcm := cmp_td x.natAbs y.natAbs
  have hd1 : (td x.natAbs).size ≤ 1000 := by rw [td_size]; exact hx
  have hd2 : (td y.natAbs).size ≤ 1000 := by rw [td_size]; exact hy
  obtain ⟨D, hD⟩ : ∃ D, D = td x.natAbs := ⟨_, rfl⟩
  obtain ⟨E, hE⟩ : ∃ E, E = td y.natAbs := ⟨_, rfl⟩
  obtain ⟨X, hX⟩ : ∃ X, X = tx x := ⟨_, rfl⟩
  obtain ⟨Y, hY⟩ : ∃ Y, Y = tx y := ⟨_, rfl⟩
  rw [← hX, ← hD] at hs1
  rw [← hY, ← hE] at hs2
  rw [← hX, ← hY]
  rw [← hD, ← hE] at hcm
  rw [← hD] at hd1
  rw [← hE] at hd2
  obtain ⟨c, hc⟩ : ∃ c, c = Lib.compareBytes D.data.toList E.data.toList := ⟨_, rfl⟩
  obtain ⟨d, hd⟩ : ∃ d, d = cmp3 (D.size : Int) (E.size : Int) := ⟨_, rfl⟩
  obtain ⟨r, hr⟩ : ∃ r, r = cmp3 (x.natAbs : Int) (y.natAbs : Int) := ⟨_, rfl⟩
  have hr1 : -1 ≤ r ∧ r ≤ 1 := by rw [hr]; unfold cmp3; split <;> (first | omega | (split <;> omega))
  rw [← hd, ← hc, ← hr] at hcm
  rw [← hr]
  have hsc := Tryz.strings_Compare D E w
  rw [← hc] at hsc
  have hci := cmpI_any (D.size : Int) (E.size : Int) w
  rw [← hd] at hci
  have hor := fun g W h0 h1 => or_any g d c W h0 h1
  rw [hcm] at hor
  have SC := Lib.hid hsc
  have CI := Lib.hid hci
  have OR := Lib.hid hor
  have NW := Lib.hid (cell2_new w (.int .i64 d) (.int .i64 c) 3)
  have B0 := Lib.hid (alloc_below' w (.cells #[.int .i64 d, .int .i64 c] 3))
  clear hcm hc hd hsc hci hor hr
  have S1 := Lib.hid hs1
  have S2 := Lib.hid hs2
  clear hs1 hs2 hsx hsy hX hY hD hE
  go_enter Tryz.func129, Tryz.ntmps129
  go_wp2_with fail
  refine S1.out.mono ?_
  rintro e w' ⟨rfl, rfl⟩
  go_wp2_with fail
  refine S2.out.mono ?_
  rintro e w' ⟨rfl, rfl⟩
  go_wp2_with fail
  refine CI.out.mono ?_
  rintro e w' ⟨rfl, rfl⟩
  go_wp2_with fail
  refine SC.out.mono ?_
  rintro e w' ⟨rfl, rfl⟩
  go_wp2_with fail
  refine (OR.out _ _ NW.out.1 NW.out.2).mono ?_
  rintro e w' ⟨rfl, rfl⟩
  go_wp2
  go_ret
  exact ⟨rfl, B0.out⟩
theorem Cmp_tx (x y : Int) (w : World) (hx : dn x ≤ 1000) (hy : dn y ≤ 1000) :
    Calls Tryz.prog 129 #[.string (tx x), .string (tx y)] w (GivesJ (cmp3 x y) w) := by
  by_cases h1 : x < 0 <;> by_cases h2 : y < 0
  · have := Cmp_tt x y w hx hy (decide_eq_true h1) (decide_eq_true h2)
    rwa [show -cmp3 (x.natAbs : Int) (y.natAbs : Int) = cmp3 x y by
      rcases Int.lt_trichotomy x y with h | h | h
      · rw [cmp3_lt h, cmp3_gt (by omega)]
      · rw [h, cmp3_eq, cmp3_eq]; rfl
      · rw [cmp3_gt h, cmp3_lt (by omega)]; rfl] at this
  · rw [cmp3_lt (by omega)]; exact Cmp_tf x y w hx hy (decide_eq_true h1) (decide_eq_false h2)
  · rw [cmp3_gt (by omega)]; exact Cmp_ft x y w hx hy (decide_eq_false h1) (decide_eq_true h2)
  · have := Cmp_ff x y w hx hy (decide_eq_false h1) (decide_eq_false h2)
    rwa [show (x.natAbs : Int) = x by omega, show (y.natAbs : Int) = y by omega] at this
end Go.Proofs.YtkhebidmfjbhaaaGreatDoor
namespace Go.Proofs.YtkhebidmfjbhaaaGreatDoor
open Go.RowKit

def RowD (w : World) (B : Nat) (a : Option Addr) (n : Nat) (z : Int) : Prop :=
  0 < n → ∃ g o, a = some ⟨g, o, none⟩ ∧ g < B ∧ ∀ j, j < n → w.cell? ⟨g, o + j, none⟩ = some (.int .i64 (Ten.lz z j))
set_option maxHeartbeats 400000 in
theorem rtrim_any (a : Option Addr) (n c : Nat) (z : Int) (w : World) (hz : 0 ≤ z) (hz' : z < Ten.bp n) (hc : n ≤ c) (hm : n ≤ 1000000) (hr : RowD w w.heap.size a n z) :
    Calls Tryz.prog 178 #[.slice a n c] w fun e w' => e = .returned (.slice a (Ten.nl z) c) ∧ w = w' := by
  have HZ := Lib.hid hz'
  have HR := Lib.hid hr
  clear hr hz'
  go_enter Tryz.func178, Tryz.ntmps178
  go_wp2
  go_loop [0] (fun v => ∃ k : Nat, k ≤ n ∧ z < Ten.bp k ∧ v = .slice a k c) (fun v => match v with | .slice _ k _ => k | _ => 0)
  case atStart => exact ⟨n, by omega, HZ.out, rfl⟩
  case round =>
    obtain ⟨k, hk, hzk, rfl⟩ := hrel
    have HK := Lib.hid hzk
    clear hzk
    rcases Nat.eq_zero_or_pos k with hk0 | hk0
    · subst hk0
      have hz0 : z = 0 := by have := HK.out; rw [Ten.bp_zero] at this; omega
      have hn0 : Ten.nl z = 0 := by rw [hz0, Ten.nl_zero]
      have HN := Lib.hid hn0
      clear hn0 hz0
      go_wp2
      go_ret
      exact ⟨by rw [HN.out]; rfl, rfl⟩
    · obtain ⟨g, o, rfl, hg, hcl⟩ := HR.out (by omega)
      have hcell := hcl (k - 1) (by omega)
      have hb := Ten.lz_bd z (k - 1)
      clear hcl
      go_wp2
      · have e : Ten.lz z (k - 1) = 0 := by simpa using ‹(Ten.lz z (k - 1) == 0) = true›
        go_round
        case rel => exact ⟨k - 1, by omega, Ten.lt_of_top hz (by rw [show k - 1 + 1 = k by omega]; exact HK.out) e, by first | rfl | (congr 1; omega)⟩
        case measure => simp; omega
      · have e : Ten.lz z (k - 1) ≠ 0 := by simpa using ‹(Ten.lz z (k - 1) == 0) = false›
        have hn : k = Ten.nl z := by
          have := Ten.nl_of_top (k := k - 1) hz (by rw [show k - 1 + 1 = k by omega]; exact HK.out) e
          omega
        go_ret
        exact ⟨by rw [← hn]; rfl, rfl⟩
end Go.Proofs.YtkhebidmfjbhaaaGreatDoor
namespace Go.Proofs.YtkhebidmfjbhaaaGreatDoor
open Go.RowKit

theorem undInt : Tryz.prog.underlying 25 = some .string := by kernel_rfl

theorem und64i : Tryz.prog.underlying 133 = some (.slice 3) := by kernel_rfl
theorem infoI64 : (Tryz.prog.info? 3).map (fun i => (i.zero, i.size, i.bytes)) = some (some (.int .i64 0), 1, 8) := by kernel_rfl
/-- The bytes of a number's text, the first k digits of them. -/
def row8 (b : Bool) (z : Int) (m k : Nat) : List Value := (if b then [Value.int .u8 45] else []) ++ (List.range k).map (fun j => Value.int .u8 (db z m j))
def off8 (b : Bool) : Nat := if b then 1 else 0
theorem row8_len (b : Bool) (z : Int) (m k : Nat) : (row8 b z m k).length = off8 b + k := by unfold row8 off8; cases b <;> simp <;> omega
theorem row8_succ (b : Bool) (z : Int) (m k : Nat) : row8 b z m (k + 1) = row8 b z m k ++ [.int .u8 (db z m k)] := by
  unfold row8
  rw [List.range_succ, List.map_append, ← List.append_assoc]
  rfl
theorem own8_ge {w : World} {base : Nat} {e : TypeId} {size n : Nat} {v : Value} {xs : List Value} (h : w.ownsRow base e size v n xs) (k : Nat) (hk : v.ownBlock = some k) : base ≤ k := by
  rcases h.2 with ⟨rfl, _⟩ | ⟨g, cap, cur, rfl, hg, _⟩
  · cases hk
  · simp [Value.ownBlock] at hk
    omega
/-- The bytes that are written are the text. -/
theorem row8_str (b : Bool) {z : Int} (hz : 0 < z) : strOfNums ((if b then [45] else []) ++ (List.range (dn z)).map (fun j => db z (dn z) j)) = tx (if b then -z else z) := by
  have hza : (z.natAbs : Int) = z := by omega
  cases b with
  | false =>
    have h := str_digits z
    rw [hza] at h
    simp only [Bool.false_eq_true, if_false, List.nil_append]
    rw [h, tx_pos (by omega)]
  | true =>
    have h := str_signed (z := -z) (by omega)
    rw [Int.natAbs_neg, hza, dn_neg] at h
    simp only [if_true]
    exact h
def nums8 (b : Bool) (z : Int) (m : Nat) : List Int := (if b then [45] else []) ++ (List.range m).map (fun j => db z m j)
theorem row8_map (b : Bool) (z : Int) (m : Nat) : row8 b z m m = (nums8 b z m).map (Value.int .u8) := by
  unfold row8 nums8
  cases b <;> simp
theorem nums8_len (b : Bool) (z : Int) (m : Nat) : (nums8 b z m).length = off8 b + m := by unfold nums8 off8; cases b <;> simp <;> omega
theorem conv8 (b : Bool) (z : Int) (m g c : Nat) (w : World) (h : ∀ j, j < off8 b + m → w.cell? ⟨g, j, none⟩ = (row8 b z m m)[j]?) :
    (convert 127 25 (.slice (some ⟨g, 0, none⟩) (off8 b + m) c)).run Tryz.prog w = .ok (.string (strOfNums (nums8 b z m))) w := by
  rw [run_convert_bytes_arg w 127 5 undU8s undU8 g 0 (off8 b + m) c (nums8 b z m) (nums8_len b z m) (fun j hj => by
    rw [Nat.zero_add, h j hj, row8_map, List.getElem?_map]
    simp [List.getD, show j < (nums8 b z m).length by rw [nums8_len]; exact hj]) _ undInt]
set_option maxHeartbeats 2000000 in
set_option maxRecDepth 100000 in
theorem rtext_pos (b : Bool) (a : Option Addr) (n c : Nat) (z : Int) (w : World) (hz : 0 < z) (hz' : z < Ten.bp n) (hc : n ≤ c) (hm : n ≤ 1000000) (hr : RowD w w.heap.size a n z) :
    Calls Tryz.prog 146 #[.bool b, .slice a n c] w (GivesY (tx (if b then -z else z)) w) := by
  obtain ⟨i8, hi, hz0, hz1, hz2⟩ := info_parts infoU8
  have hst := row8_str b hz
  have TR := Lib.hid (rtrim_any a n c z w (by omega) hz' hc hm hr)
  have hnl := Ten.nl_pos hz
  have hnn : Ten.nl z ≤ n := Ten.nl_le hz'
  rw [dn_ten hz] at hst
  obtain ⟨m, hmm⟩ : ∃ m, m = Ten.nl z := ⟨_, rfl⟩
  rw [← hmm] at hst hnl hnn TR
  obtain ⟨g, o, rfl, hg, hcl⟩ := hr (by omega)
  have HC := Lib.hid hcl
  have HST := Lib.hid hst
  obtain ⟨T, hT⟩ : ∃ T, T = tx (if b = true then -z else z) := ⟨_, rfl⟩
  rw [← hT] at HST ⊢
  have hne : (((m : Nat) : Int) == 0) = false := by rw [beq_eq_false_iff_ne]; omega
  clear hr hcl hst hT hz' hz hmm
  go_enter Tryz.func146, Tryz.ntmps146
  go_wp2_with fail
  refine TR.out.mono ?_
  rintro e w' ⟨rfl, rfl⟩
  cases b with
  | false =>
    have hown0 : w.ownsRow w.heap.size 5 1 (.slice none 0 0) (off8 false + 0) (row8 false z m 0) := World.ownsRow_nil _ _ _ _
    go_wp2_with fail
    go_loopw [5, 6] (fun v i wr => ∃ k : Nat, k ≤ m ∧ i = .int .i64 ((m : Int) - 1 - k) ∧ wr.ownsRow w.heap.size 5 1 v (off8 false + k) (row8 false z m k) ∧ Below w.heap.size w wr) (fun _ i _ => (intOf i + 1).toNat)
    case atStart => exact ⟨0, by omega, by go_num, hown0, Below.refl _ _⟩
    case round =>
      obtain ⟨k, hk, rfl, hown, hb⟩ := hrel
      have hlen := row8_len false z m k
      have hob : off8 false ≤ 1 := by unfold off8; decide
      have hws := hb.size
      by_cases hlt : k < m
      · have hcell := (below_at hb (o + (m - 1 - k)) hg).trans (HC.out (m - 1 - k) (by omega))
        have hbd := Ten.lz_bd z (m - 1 - k)
        have hdb : 48 + Ten.lz z (m - 1 - k) = db z m k := rfl
        have hsucc := Lib.hid (row8_succ false z m k)
        have HDB := Lib.hid hdb
        have hip : (m : Int) - 1 - k = ((m - 1 - k : Nat) : Int) := by omega
        rw [hip]
        obtain ⟨l, hl⟩ : ∃ l, l = Ten.lz z (m - 1 - k) := ⟨_, rfl⟩
        rw [← hl] at hcell hbd HDB
        obtain ⟨p, hp⟩ : ∃ p, p = m - 1 - k := ⟨_, rfl⟩
        rw [← hp] at hcell ⊢
        have HP := Lib.hid hp
        have hpm : p < m := by omega
        clear hl hdb hip hp
        go_wp2_with (at_builtin; refine wpList_append_own _ rfl _ _ 127 rfl w.heap.size 5 i8 (.int .u8 0) 1 1 undU8s hi hz0 hz1 hz2 rfl (by decide) _ _ _ rfl (hown.alloc _) ⟨wr.heap.size, 0, none⟩ 1 1 [.int .u8 (48 + l)] rfl rfl ?c1 ?c2 ?c3 ?c4 ?c5 ?_)
        case c1 =>
          intro k u hk
          match k, hk with
          | 0, hk => simp at hk; subst hk; simp [Addr.add]
        case c2 => intro u hu; simp at hu; subst hu; rfl
        case c3 => unfold maxLen; omega
        case c4 => omega
        case c5 => simp; omega
        · intro v' w1 hown' hgrow _
          have R1 : w1.ownsRow w.heap.size 5 1 v' (off8 false + (k + 1)) (row8 false z m (k + 1)) := by
            rw [hsucc.out, ← HDB.out]
            exact hown'
          have R2 : Below w.heap.size w w1 := (hb.alloc hb.size _).grown hgrow (by simp; omega) (own8_ge hown)
          clear hown' hgrow hown hb
          go_wp2
          go_roundw
          case rel => exact ⟨k + 1, by omega, by have := HP.out; go_num, R1, R2⟩
          case measure => (have := HP.out; simp [intOf] <;> omega)
      · have hkm : k = m := by omega
        rw [hkm] at hown
        obtain ⟨g', cap, hv, _, _⟩ := hown.form (by omega)
        subst hv
        have hcv := conv8 false z m g' cap wr (fun j hj => hown.cellAt j (by omega))
        rw [show strOfNums (nums8 false z m) = T from HST.out] at hcv
        have HB := Lib.hid hb
        have hlt' : ¬ (0 : Int) ≤ (m : Int) - 1 - k := by omega
        clear hown hlen hob hws hb hkm hlt
        go_wp2
        go_ret
        exact ⟨rfl, HB.out⟩
  | true =>
    have hown1 : w.ownsRow w.heap.size 5 1 (.slice none 0 0) 0 [] := World.ownsRow_nil _ _ _ _
    go_wp2_with (at_builtin; refine wpList_append_own _ rfl _ _ 127 rfl w.heap.size 5 i8 (.int .u8 0) 1 1 undU8s hi hz0 hz1 hz2 rfl (by decide) _ _ _ rfl (hown1.alloc _) ⟨w.heap.size, 0, none⟩ 1 1 [.int .u8 45] rfl rfl ?c1 ?c2 ?c3 ?c4 ?c5 ?_)
    case c1 =>
      intro k u hk
      match k, hk with
      | 0, hk => simp at hk; subst hk; simp [Addr.add]
    case c2 => intro u hu; simp at hu; subst hu; rfl
    case c3 => unfold maxLen; omega
    case c4 => omega
    case c5 => simp
    · intro v0 w0 hown' hgrow _
      have hown0 : w0.ownsRow w.heap.size 5 1 v0 (off8 true + 0) (row8 true z m 0) := hown'
      have hb0 : Below w.heap.size w w0 := ((Below.refl _ _).alloc (Nat.le_refl _) _).grown hgrow (by simp) (own8_ge hown1)
      clear hown' hgrow hown1
      go_wp2_with fail
      go_loopw [5, 6] (fun v i wr => ∃ k : Nat, k ≤ m ∧ i = .int .i64 ((m : Int) - 1 - k) ∧ wr.ownsRow w.heap.size 5 1 v (off8 true + k) (row8 true z m k) ∧ Below w.heap.size w wr) (fun _ i _ => (intOf i + 1).toNat)
      case atStart => exact ⟨0, by omega, by go_num, hown0, hb0⟩
      case round =>
        obtain ⟨k, hk, rfl, hown, hb⟩ := hrel
        have hlen := row8_len true z m k
        have hob : off8 true ≤ 1 := by unfold off8; decide
        have hws := hb.size
        by_cases hlt : k < m
        · have hcell := (below_at hb (o + (m - 1 - k)) hg).trans (HC.out (m - 1 - k) (by omega))
          have hbd := Ten.lz_bd z (m - 1 - k)
          have hdb : 48 + Ten.lz z (m - 1 - k) = db z m k := rfl
          have hsucc := Lib.hid (row8_succ true z m k)
          have HDB := Lib.hid hdb
          have hip : (m : Int) - 1 - k = ((m - 1 - k : Nat) : Int) := by omega
          rw [hip]
          obtain ⟨l, hl⟩ : ∃ l, l = Ten.lz z (m - 1 - k) := ⟨_, rfl⟩
          rw [← hl] at hcell hbd HDB
          obtain ⟨p, hp⟩ : ∃ p, p = m - 1 - k := ⟨_, rfl⟩
          rw [← hp] at hcell ⊢
          have HP := Lib.hid hp
          have hpm : p < m := by omega
          clear hl hdb hip hp
          go_wp2_with (at_builtin; refine wpList_append_own _ rfl _ _ 127 rfl w.heap.size 5 i8 (.int .u8 0) 1 1 undU8s hi hz0 hz1 hz2 rfl (by decide) _ _ _ rfl (hown.alloc _) ⟨wr.heap.size, 0, none⟩ 1 1 [.int .u8 (48 + l)] rfl rfl ?c1 ?c2 ?c3 ?c4 ?c5 ?_)
          case c1 =>
            intro k u hk
            match k, hk with
            | 0, hk => simp at hk; subst hk; simp [Addr.add]
          case c2 => intro u hu; simp at hu; subst hu; rfl
          case c3 => unfold maxLen; omega
          case c4 => omega
          case c5 => simp; omega
          · intro v' w1 hown' hgrow _
            have R1 : w1.ownsRow w.heap.size 5 1 v' (off8 true + (k + 1)) (row8 true z m (k + 1)) := by
              rw [hsucc.out, ← HDB.out]
              exact hown'
            have R2 : Below w.heap.size w w1 := (hb.alloc hb.size _).grown hgrow (by simp; omega) (own8_ge hown)
            clear hown' hgrow hown hb
            go_wp2
            go_roundw
            case rel => exact ⟨k + 1, by omega, by have := HP.out; go_num, R1, R2⟩
            case measure => (have := HP.out; simp [intOf] <;> omega)
        · have hkm : k = m := by omega
          rw [hkm] at hown
          obtain ⟨g', cap, hv, _, _⟩ := hown.form (by omega)
          subst hv
          have hcv := conv8 true z m g' cap wr (fun j hj => hown.cellAt j (by omega))
          rw [show strOfNums (nums8 true z m) = T from HST.out] at hcv
          have HB := Lib.hid hb
          have hlt' : ¬ (0 : Int) ≤ (m : Int) - 1 - k := by omega
          clear hown hlen hob hws hb hkm hlt
          go_wp2
          go_ret
          exact ⟨rfl, HB.out⟩
theorem rtext_zero (b : Bool) (a : Option Addr) (n c : Nat) (w : World) (hc : n ≤ c) (hm : n ≤ 1000000) (hr : RowD w w.heap.size a n 0) :
    Calls Tryz.prog 146 #[.bool b, .slice a n c] w (GivesY (tx 0) w) := by
  have hT : tx 0 = ⟨#[48]⟩ := by unfold tx; simp [Lib.itoa, Lib.decDigits]
  have htr := rtrim_any a n c 0 w (by omega) (Ten.bp_pos n) hc hm hr
  rw [Ten.nl_zero] at htr
  have TR := Lib.hid htr
  rw [hT]
  clear htr hT hr
  go_enter Tryz.func146, Tryz.ntmps146
  go_wp2_with fail
  refine TR.out.mono ?_
  rintro e w' ⟨rfl, rfl⟩
  go_wp2
  go_ret
  exact ⟨rfl, Below.refl _ _⟩
theorem rtext_any (b : Bool) (a : Option Addr) (n c : Nat) (z : Int) (w : World) (hz : 0 ≤ z) (hz' : z < Ten.bp n) (hc : n ≤ c) (hm : n ≤ 1000000) (hr : RowD w w.heap.size a n z) :
    Calls Tryz.prog 146 #[.bool b, .slice a n c] w (GivesY (tx (if b then -z else z)) w) := by
  rcases Int.lt_or_le 0 z with h | h
  · exact rtext_pos b a n c z w h hz' hc hm hr
  · obtain rfl : z = 0 := by omega
    rw [show (if b = true then -(0 : Int) else 0) = 0 by split <;> rfl]
    exact rtext_zero b a n c w hc hm hr
end Go.Proofs.YtkhebidmfjbhaaaGreatDoor
namespace Go.Proofs.YtkhebidmfjbhaaaGreatDoor
open Go.RowKit

/-- The number with these decimal digits, the lowest first. -/
def dv : List Nat → Int
  | [] => 0
  | d :: l => d + 10 * dv l
theorem dv_bd : ∀ l : List Nat, (∀ d, d ∈ l → d < 10) → 0 ≤ dv l ∧ dv l < Ten.bp l.length
  | [], _ => by rw [dv, List.length_nil, Ten.bp_zero]; omega
  | d :: l, h => by
    have h1 := dv_bd l (fun x hx => h x (List.mem_cons_of_mem _ hx))
    have h2 := h d List.mem_cons_self
    rw [dv, List.length_cons, Ten.bp_succ]
    omega
theorem dv_lz : ∀ (l : List Nat), (∀ d, d ∈ l → d < 10) → ∀ (j : Nat) (hj : j < l.length), Ten.lz (dv l) j = l[j]
  | d :: l, h, 0, _ => by
    have h2 := h d List.mem_cons_self
    unfold Ten.lz
    rw [dv, Ten.div_bp_zero]
    show _ = (d : Int)
    omega
  | d :: l, h, j + 1, hj => by
    have h1 := dv_lz l (fun x hx => h x (List.mem_cons_of_mem _ hx)) j (by simpa using hj)
    have h2 := h d List.mem_cons_self
    have e : Ten.lz (dv (d :: l)) (j + 1) = Ten.lz (dv (d :: l) / Ten.bp 1) j := by rw [Ten.lz_shift, Nat.add_comm]
    rw [e, dv, Ten.bp_one, show ((d : Int) + 10 * dv l) / 10 = dv l by omega, h1]
    rfl
def vals (l : List Nat) : List Value := l.map fun q : Nat => Value.int .i64 (q : Int)
theorem vals_snoc (l : List Nat) (j : Nat) : vals (l ++ [j]) = vals l ++ [.int .i64 (j : Int)] := by simp [vals]
theorem rowD_of_own {w : World} {B : Nat} {v : Value} {l : List Nat} (h : w.ownsRow B 3 1 v l.length (vals l)) (hd : ∀ d, d ∈ l → d < 10) : ∃ a c, v = .slice a l.length c ∧ l.length ≤ c ∧ RowD w w.heap.size a l.length (dv l) := by
  rcases Nat.eq_zero_or_pos l.length with e | e
  · rcases h.2 with ⟨hv, _⟩ | ⟨g, cap, cur, hv, _, _, hc, _⟩
    · exact ⟨none, 0, by rw [hv, e], by omega, fun k => absurd k (by omega)⟩
    · exact ⟨some ⟨g, 0, none⟩, cap, by rw [hv], hc, fun k => absurd k (by omega)⟩
  · obtain ⟨g, cap, hv, _, _⟩ := h.form e
    rcases h.2 with ⟨hv', _⟩ | ⟨g', cap', cur, hv', _, _, hc, _⟩
    · rw [hv] at hv'; cases hv'
    · rw [hv] at hv'
      injection hv' with e1 e2 e3
      subst e3
      subst hv
      refine ⟨_, cap, rfl, hc, fun _ => ⟨g, 0, rfl, ?_, fun j hj => ?_⟩⟩
      · exact World.block_lt_of_cell? w ⟨g, 0, none⟩ (u := .int .i64 (l[0] : Nat)) (by rw [h.cellAt 0 (by omega)]; simp [vals, e])
      · rw [Nat.zero_add, h.cellAt j (by omega), dv_lz l hd j hj]
        simp [vals, hj]
end Go.Proofs.YtkhebidmfjbhaaaGreatDoor
