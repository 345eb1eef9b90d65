/-
  What whole.split returns: the sign and the digits of a text, or that it is no integer.
  What whole.collect returns: the number with these digits.
  What natural.write does: it writes the decimal digits.
  What number.text returns: the text of an integer.
  What whole.parse returns, and the sums, differences and products of integers.
-/
import Derived.Test.YtphbfjcaehiboaaGreatDoorZb
import Derived.Test.YtphbfjcaehiboaaGreatDoorZa
import Derived.Test.YtphbfjcaehiboaaGreatDoorShelf
import Derived.Test.YtphbfjcaehiboaaGreatDoorZc
import Derived.Laws.BytesArg
namespace Go.Proofs.YtphbfjcaehiboaaGreatDoor
open Go.RowKit

/-- The digits of a text as a text. -/
def dg (s : ByteArray) : ByteArray := ⟨(digs s.data.toList).toArray⟩
/-- Does it begin with a minus sign? -/
def neg (s : ByteArray) : Bool := decide (s.data.toList.head? = some 45)
theorem cut_any (s : ByteArray) (w : World) : Calls Tryz.prog 75 #[.string s, .string ⟨#[45]⟩] w fun e w' => e = .returned (.tuple #[.string (dg s), .bool (neg s)]) ∧ w = w' := by
  refine (Tryz.strings_CutPrefix s ⟨#[45]⟩ w).mono ?_
  rintro e w' ⟨rfl, rfl⟩
  refine ⟨?_, rfl⟩
  have h1 : Lib.hasPrefix s.data.toList (⟨#[45]⟩ : ByteArray).data.toList = neg s := by
    unfold Lib.hasPrefix neg
    cases s.data.toList with
    | nil => rfl
    | cons c r =>
      simp [List.isPrefixOf]
      by_cases h : c = 45
      · simp [h]
      · have h' : ¬ (45 : UInt8) = c := fun e => h e.symm
        simp [h, h']
  have h2 : Lib.trimPrefix s.data.toList (⟨#[45]⟩ : ByteArray).data.toList = digs s.data.toList := by
    unfold Lib.trimPrefix digs
    rw [h1]
    unfold neg
    by_cases h : s.data.toList.head? = some 45
    · simp [h]
    · simp [h]
  rw [h1, h2]
  rfl

def GivesS (b : Bool) (d : ByteArray) (ok : Bool) (w : World) (e : Ending) (w' : World) : Prop := e = .returned (.tuple #[.bool b, .string d, .bool ok]) ∧ w = w'

theorem split_yes (s D : ByteArray) (b : Bool) (w : World) (hc : Calls Tryz.prog 75 #[.string s, .string ⟨#[45]⟩] w fun e w' => e = .returned (.tuple #[.string D, .bool b]) ∧ w = w')
    (h1 : 0 < D.size) (h2 : D.size ≤ 1000) (hs : s.size ≤ 1001) (h3 : ((D[0]'h1).toNat : Int) = 48 → s.size ≤ 1) (h4 : ∀ k (hk : k < D.size), 48 ≤ ((D[k]'hk).toNat : Int) ∧ ((D[k]'hk).toNat : Int) ≤ 57) :
    Calls Tryz.prog 37 #[.string s] w (GivesS b D true w) := by
  have HC := Lib.hid hc
  have H4 := Lib.hid h4
  have hz : (((D.size : Nat) : Int) == 0) = false := beq_eq_false_iff_ne.2 (by omega)
  have hd := h4 0 h1
  clear hc h4
  by_cases hq : ((D[0]'h1).toNat : Int) = 48
  · have hq1 : (((D[0]'h1).toNat : Int) == 48) = true := beq_iff_eq.2 hq
    have hs1 := h3 hq
    clear h3 hq
    go_enter Tryz.func37, Tryz.ntmps37
    go_wp2_with (go_at_call 75; refine HC.out.mono ?_; rintro e w' ⟨rfl, rfl⟩)
    go_loop [2, 3, 5, 29] (fun m d _ i => ∃ k : Nat, k ≤ D.size ∧ i = .int .i64 k ∧ m = .bool b ∧ d = .string D) (fun _ _ _ i => D.size - (intOf i).toNat)
    case atStart => exact ⟨0, by omega, rfl, rfl, rfl⟩
    case round =>
      obtain ⟨k, hk, rfl, rfl, rfl⟩ := hrel
      by_cases hlt : k < D.size
      · obtain ⟨b1, b2⟩ := H4.out k hlt
        go_wp2
        go_round
        case rel => exact ⟨k + 1, by omega, by go_num, rfl, rfl⟩
        case measure => simp [intOf]; omega
      · go_wp2
        go_ret3
        exact ⟨rfl, rfl⟩
  · have hq1 : (((D[0]'h1).toNat : Int) == 48) = false := beq_eq_false_iff_ne.2 hq
    clear h3 hq
    go_enter Tryz.func37, Tryz.ntmps37
    go_wp2_with (go_at_call 75; refine HC.out.mono ?_; rintro e w' ⟨rfl, rfl⟩)
    go_loop [2, 3, 5, 29] (fun m d _ i => ∃ k : Nat, k ≤ D.size ∧ i = .int .i64 k ∧ m = .bool b ∧ d = .string D) (fun _ _ _ i => D.size - (intOf i).toNat)
    case atStart => exact ⟨0, by omega, rfl, rfl, rfl⟩
    case round =>
      obtain ⟨k, hk, rfl, rfl, rfl⟩ := hrel
      by_cases hlt : k < D.size
      · obtain ⟨b1, b2⟩ := H4.out k hlt
        go_wp2
        go_round
        case rel => exact ⟨k + 1, by omega, by go_num, rfl, rfl⟩
        case measure => simp [intOf]; omega
      · go_wp2
        go_ret3
        exact ⟨rfl, rfl⟩

theorem split_empty (s D : ByteArray) (b : Bool) (w : World) (hc : Calls Tryz.prog 75 #[.string s, .string ⟨#[45]⟩] w fun e w' => e = .returned (.tuple #[.string D, .bool b]) ∧ w = w') (h1 : D.size = 0) :
    Calls Tryz.prog 37 #[.string s] w (GivesS false ⟨#[]⟩ false w) := by
  have HC := Lib.hid hc
  have hz : (((D.size : Nat) : Int) == 0) = true := beq_iff_eq.2 (by omega)
  have H1 := Lib.hid h1
  clear hc h1
  go_enter Tryz.func37, Tryz.ntmps37
  go_wp2_with (go_at_call 75; refine HC.out.mono ?_; rintro e w' ⟨rfl, rfl⟩)
  go_ret3
  exact ⟨rfl, rfl⟩
theorem split_long (s D : ByteArray) (b : Bool) (w : World) (hc : Calls Tryz.prog 75 #[.string s, .string ⟨#[45]⟩] w fun e w' => e = .returned (.tuple #[.string D, .bool b]) ∧ w = w') (h1 : 1000 < D.size) (hm : D.size ≤ 9223372036854775807) :
    Calls Tryz.prog 37 #[.string s] w (GivesS false ⟨#[]⟩ false w) := by
  have HC := Lib.hid hc
  have hz : (((D.size : Nat) : Int) == 0) = false := beq_eq_false_iff_ne.2 (by omega)
  clear hc
  go_enter Tryz.func37, Tryz.ntmps37
  go_wp2_with (go_at_call 75; refine HC.out.mono ?_; rintro e w' ⟨rfl, rfl⟩)
  go_ret3
  exact ⟨rfl, rfl⟩
theorem split_zeros (s D : ByteArray) (b : Bool) (w : World) (hc : Calls Tryz.prog 75 #[.string s, .string ⟨#[45]⟩] w fun e w' => e = .returned (.tuple #[.string D, .bool b]) ∧ w = w') (h1 : 0 < D.size) (h2 : D.size ≤ 1000) (h3 : ((D[0]'h1).toNat : Int) = 48) (hs : 1 < s.size) (hs2 : s.size ≤ 1001) :
    Calls Tryz.prog 37 #[.string s] w (GivesS false ⟨#[]⟩ false w) := by
  have HC := Lib.hid hc
  have hz : (((D.size : Nat) : Int) == 0) = false := beq_eq_false_iff_ne.2 (by omega)
  have hq1 : (((D[0]'h1).toNat : Int) == 48) = true := beq_iff_eq.2 h3
  clear hc h3
  go_enter Tryz.func37, Tryz.ntmps37
  go_wp2_with (go_at_call 75; refine HC.out.mono ?_; rintro e w' ⟨rfl, rfl⟩)
  go_ret3
  exact ⟨rfl, rfl⟩
theorem split_bad (s D : ByteArray) (b : Bool) (w : World) (n : Nat) (hc : Calls Tryz.prog 75 #[.string s, .string ⟨#[45]⟩] w fun e w' => e = .returned (.tuple #[.string D, .bool b]) ∧ w = w')
    (h1 : 0 < D.size) (h2 : D.size ≤ 1000) (hs : s.size ≤ 1001) (h3 : ((D[0]'h1).toNat : Int) = 48 → s.size ≤ 1) (hn : n < D.size) (h4 : ∀ k (hk : k < D.size), k < n → 48 ≤ ((D[k]'hk).toNat : Int) ∧ ((D[k]'hk).toNat : Int) ≤ 57) (hbad : ((D[n]'hn).toNat : Int) < 48 ∨ 57 < ((D[n]'hn).toNat : Int)) :
    Calls Tryz.prog 37 #[.string s] w (GivesS false ⟨#[]⟩ false w) := by
  have HC := Lib.hid hc
  have H4 := Lib.hid h4
  have hz : (((D.size : Nat) : Int) == 0) = false := beq_eq_false_iff_ne.2 (by omega)
  clear hc h4
  by_cases hq : ((D[0]'h1).toNat : Int) = 48
  · have hq1 : (((D[0]'h1).toNat : Int) == 48) = true := beq_iff_eq.2 hq
    have hs1 := h3 hq
    clear h3 hq
    go_enter Tryz.func37, Tryz.ntmps37
    go_wp2_with (go_at_call 75; refine HC.out.mono ?_; rintro e w' ⟨rfl, rfl⟩)
    go_loop [2, 3, 5, 29] (fun m d _ i => ∃ k : Nat, k ≤ n ∧ i = .int .i64 k ∧ m = .bool b ∧ d = .string D) (fun _ _ _ i => D.size - (intOf i).toNat)
    case atStart => exact ⟨0, by omega, rfl, rfl, rfl⟩
    case round =>
      obtain ⟨k, hk, rfl, rfl, rfl⟩ := hrel
      by_cases hlt : k < n
      · obtain ⟨b1, b2⟩ := H4.out k (by omega) hlt
        go_wp2
        go_round
        case rel => exact ⟨k + 1, by omega, by go_num, rfl, rfl⟩
        case measure => simp [intOf]; omega
      · obtain rfl : k = n := by omega
        rcases hbad with hbad | hbad
        · go_wp2
          go_ret3
          exact ⟨rfl, rfl⟩
        · by_cases hlo : ((D[k]'hn).toNat : Int) < 48
          · go_wp2
            go_ret3
            exact ⟨rfl, rfl⟩
          · go_wp2
            go_ret3
            exact ⟨rfl, rfl⟩
  · have hq1 : (((D[0]'h1).toNat : Int) == 48) = false := beq_eq_false_iff_ne.2 hq
    clear h3 hq
    go_enter Tryz.func37, Tryz.ntmps37
    go_wp2_with (go_at_call 75; refine HC.out.mono ?_; rintro e w' ⟨rfl, rfl⟩)
    go_loop [2, 3, 5, 29] (fun m d _ i => ∃ k : Nat, k ≤ n ∧ i = .int .i64 k ∧ m = .bool b ∧ d = .string D) (fun _ _ _ i => D.size - (intOf i).toNat)
    case atStart => exact ⟨0, by omega, rfl, rfl, rfl⟩
    case round =>
      obtain ⟨k, hk, rfl, rfl, rfl⟩ := hrel
      by_cases hlt : k < n
      · obtain ⟨b1, b2⟩ := H4.out k (by omega) hlt
        go_wp2
        go_round
        case rel => exact ⟨k + 1, by omega, by go_num, rfl, rfl⟩
        case measure => simp [intOf]; omega
      · obtain rfl : k = n := by omega
        rcases hbad with hbad | hbad
        · go_wp2
          go_ret3
          exact ⟨rfl, rfl⟩
        · by_cases hlo : ((D[k]'hn).toNat : Int) < 48
          · go_wp2
            go_ret3
            exact ⟨rfl, rfl⟩
          · go_wp2
            go_ret3
            exact ⟨rfl, rfl⟩

theorem dg_size_le (s : ByteArray) : (dg s).size ≤ s.size ∧ s.size ≤ (dg s).size + 1 := by
  have e1 : (dg s).size = (digs s.data.toList).length := by show (digs s.data.toList).toArray.size = _; rw [List.size_toArray]
  have e2 : s.size = s.data.toList.length := by show s.data.size = _; rw [Array.length_toList]
  rw [e1, e2]
  unfold digs
  split
  · cases s.data.toList <;> simp
  · omega
theorem dg_get (s : ByteArray) (k : Nat) (hk : k < (dg s).size) : (digs s.data.toList)[k]? = some ((dg s)[k]'hk) := by
  have e1 : (dg s).size = (digs s.data.toList).length := by show (digs s.data.toList).toArray.size = _; rw [List.size_toArray]
  rw [List.getElem?_eq_getElem (by omega)]
  rfl
theorem isDig_iff (c : UInt8) : isDig c = true ↔ 48 ≤ (c.toNat : Int) ∧ (c.toNat : Int) ≤ 57 := by unfold isDig; simp; omega
theorem split_no (s : ByteArray) (w : World) (hm : s.size ≤ 9223372036854775807) (h : isT s.data.toList = false) :
    Calls Tryz.prog 37 #[.string s] w (GivesS false ⟨#[]⟩ false w) := by
  have hc := cut_any s w
  have hl := dg_size_le s
  have e1 : (dg s).size = (digs s.data.toList).length := by show (digs s.data.toList).toArray.size = _; rw [List.size_toArray]
  have e2 : s.size = s.data.toList.length := by show s.data.size = _; rw [Array.length_toList]
  by_cases h1 : (dg s).size = 0
  · exact split_empty s _ _ w hc h1
  by_cases h2 : 1000 < (dg s).size
  · exact split_long s _ _ w hc h2 (by omega)
  have h1' : 0 < (dg s).size := by omega
  have g0 := dg_get s 0 h1'
  by_cases h3 : (((dg s)[0]'h1').toNat : Int) = 48 ∧ 1 < s.size
  · exact split_zeros s _ _ w hc h1' (by omega) h3.1 h3.2 (by omega)
  have hex : ∃ n, ∃ hn : n < (dg s).size, isDig ((dg s)[n]'hn) = false := by
    unfold isT at h
    have a1 : (digs s.data.toList).isEmpty = false := by
      cases hd : digs s.data.toList with
      | nil => rw [hd] at e1; exact absurd e1 h1
      | cons => rfl
    have a3 : ((digs s.data.toList).head? == some 48 && decide (1 < s.data.toList.length)) = false := by
      rw [List.head?_eq_getElem?, g0, ← e2]
      cases hh : (some ((dg s)[0]'h1') == some (48 : UInt8)) with
      | false => rfl
      | true =>
        have : (dg s)[0]'h1' = 48 := Option.some.inj (beq_iff_eq.1 hh)
        have h48 : (((dg s)[0]'h1').toNat : Int) = 48 := by rw [this]; rfl
        rw [Bool.true_and]; exact decide_eq_false (fun hs => absurd ⟨h48, hs⟩ h3)
    have a2 : decide ((digs s.data.toList).length ≤ 1000) = true := decide_eq_true (by omega)
    rw [a1, a2, a3] at h
    simp only [Bool.not_false, Bool.and_self, Bool.true_and] at h
    rw [List.all_eq_false] at h
    obtain ⟨c, hc1, hc2⟩ := h
    obtain ⟨n, hn, rfl⟩ := List.getElem_of_mem hc1
    refine ⟨n, by omega, ?_⟩
    have := dg_get s n (by omega)
    rw [List.getElem?_eq_getElem hn] at this
    rw [← Option.some.inj this]
    exact Bool.eq_false_iff.2 hc2
  have hmin : ∃ n, ∃ hn : n < (dg s).size, isDig ((dg s)[n]'hn) = false ∧ ∀ k (hk : k < (dg s).size), k < n → isDig ((dg s)[k]'hk) = true := by
    obtain ⟨n, hn, hb⟩ := hex
    induction n using Nat.strongRecOn with
    | _ n ih =>
      by_cases hall : ∀ k (hk : k < (dg s).size), k < n → isDig ((dg s)[k]'hk) = true
      · exact ⟨n, hn, hb, hall⟩
      · have : ∃ k, ∃ hk : k < (dg s).size, k < n ∧ isDig ((dg s)[k]'hk) = false := by
          apply Classical.byContradiction
          intro hne
          apply hall
          intro k hk hkn
          cases hd : isDig ((dg s)[k]'hk) with
          | true => rfl
          | false => exact absurd ⟨k, hk, hkn, hd⟩ hne
        obtain ⟨k, hk, hkn, hd⟩ := this
        exact ih k hkn hk hd
  obtain ⟨n, hn, hb, hall⟩ := hmin
  refine split_bad s _ _ w n hc h1' (by omega) (by omega) (fun e => by
    rcases Nat.lt_or_ge 1 s.size with hs | hs
    · exact absurd ⟨e, hs⟩ h3
    · exact hs) hn (fun k hk hkn => (isDig_iff _).1 (hall k hk hkn)) ?_
  have : ¬ (48 ≤ (((dg s)[n]'hn).toNat : Int) ∧ (((dg s)[n]'hn).toNat : Int) ≤ 57) := fun e => by rw [(isDig_iff _).2 e] at hb; cases hb
  omega

theorem dg_tx (z : Int) : dg (tx z) = td z.natAbs := by unfold dg td; rw [tx_list, digs_itoa]
theorem neg_tx (z : Int) : neg (tx z) = decide (z < 0) := by
  unfold neg
  rw [tx_list]
  unfold Lib.itoa
  by_cases h : z < 0
  · rw [if_pos h]; simp [h]
  · rw [if_neg h]; simp [h, dec_head_45]
theorem td_dig (n k : Nat) (hk : k < (td n).size) : 48 ≤ (((td n)[k]'hk).toNat : Int) ∧ (((td n)[k]'hk).toNat : Int) ≤ 57 := by
  rw [td_get]; omega
theorem split_tx (z : Int) (w : World) (hz : dn z ≤ 1000) :
    Calls Tryz.prog 37 #[.string (tx z)] w (GivesS (decide (z < 0)) (td z.natAbs) true w) := by
  have hc := cut_any (tx z) w
  rw [dg_tx, neg_tx] at hc
  have h1 := td_size z.natAbs
  have h2 := tx_size z
  have h3 := dn_pos z
  unfold dn at hz h2 h3
  refine split_yes (tx z) _ _ w hc (by omega) (by omega) (by split at h2 <;> omega) (fun e => ?_) (fun k hk => td_dig _ k hk)
  have h0 : z.natAbs = 0 := by
    rw [← dec_head_48, ← td_list, List.head?_eq_getElem?]
    have hlt : 0 < (td z.natAbs).data.toList.length := by rw [td_list, Lib.decDigits_length]; omega
    rw [List.getElem?_eq_getElem hlt]
    congr 1
    apply UInt8.toNat_inj.1
    have : ((td z.natAbs)[0]'(by omega)).toNat = 48 := by omega
    exact this
  have : z = 0 := by omega
  subst this
  rw [h2]
  simp [Lib.nDigits_small]
end Go.Proofs.YtphbfjcaehiboaaGreatDoor
namespace Go.Proofs.YtphbfjcaehiboaaGreatDoor
open Go.RowKit

/-- The highest s digits (of len) of u that stand before place e. -/
def grp (u : Int) (len s e : Nat) : Int := u / Ten.bp (len - e) % Ten.bp (e - s)
theorem grp_zero (u : Int) (len s : Nat) : grp u len s s = 0 := by unfold grp; rw [Nat.sub_self, Ten.bp_zero]; omega
theorem grp_step {u : Int} {len s e : Nat} (hs : s ≤ e) (he : e < len) : grp u len s (e + 1) = grp u len s e * 10 + Ten.lz u (len - 1 - e) := by
  unfold grp
  rw [show len - (e + 1) = len - 1 - e by omega, show e + 1 - s = (e - s) + 1 by omega, show len - e = (len - 1 - e) + 1 by omega, Ten.bp_succ, Ten.div_succ]
  unfold Ten.lz
  generalize u / Ten.bp (len - 1 - e) = y
  have hp := Ten.bp_pos (e - s)
  have h1 := Int.emod_add_mul_ediv y 10
  have h2 := Int.emod_add_mul_ediv (y / 10) (Ten.bp (e - s))
  have h3 := Int.emod_nonneg (y / 10) (show Ten.bp (e - s) ≠ 0 by omega)
  have h4 := Int.emod_lt_of_pos (y / 10) hp
  generalize y / 10 / Ten.bp (e - s) = q at *
  generalize y / 10 % Ten.bp (e - s) = r at *
  have e1 : y = (r * 10 + y % 10) + (10 * Ten.bp (e - s)) * q := by rw [Int.mul_assoc]; omega
  rw [e1, Int.add_mul_emod_self_left, Int.emod_eq_of_lt (by omega) (by omega)]
  omega
theorem grp_bd (u : Int) (len : Nat) {s e : Nat} (h : e ≤ s + 9) : 0 ≤ grp u len s e ∧ grp u len s e < 1000000000 := by
  unfold grp
  have hp := Ten.bp_pos (e - s)
  have h1 := Ten.bp_mono (show e - s ≤ 9 by omega)
  rw [ten_nine] at h1
  exact ⟨Int.emod_nonneg _ (by omega), by have := Int.emod_lt_of_pos (u / Ten.bp (len - e)) hp; omega⟩
/-- A group of nine digits, or of what is left, is a limb. -/
theorem grp_limb {u : Int} {len k : Nat} (h0 : 0 ≤ u) (h : u < Ten.bp len) (hk : 9 * k < len) : grp u len (len - 9 * k - 9) (len - 9 * k) = lz u k := by
  unfold grp lz
  rw [show len - (len - 9 * k) = 9 * k by omega, ← bp_ten]
  by_cases h9 : 9 * k + 9 ≤ len
  · rw [show len - 9 * k - (len - 9 * k - 9) = 9 by omega, ten_nine]
  · have e1 : 0 ≤ u / bp k := Int.ediv_nonneg h0 (Int.le_of_lt (bp_pos k))
    have e2 : u / bp k < Ten.bp (len - 9 * k) := by
      apply Int.ediv_lt_of_lt_mul (bp_pos k)
      rw [bp_ten, Int.mul_comm, ← Ten.bp_add, show 9 * k + (len - 9 * k) = len by omega]; exact h
    have e3 := Ten.bp_mono (show len - 9 * k ≤ 9 by omega)
    rw [ten_nine] at e3
    rw [show len - 9 * k - (len - 9 * k - 9) = len - 9 * k by omega, Int.emod_eq_of_lt e1 e2, Int.emod_eq_of_lt e1 (by omega)]
/-- A digit of a text. -/
theorem td_lz (n t : Nat) (h : t < (td n).size) : (((td n)[t]'h).toNat : Int) = 48 + Ten.lz n ((td n).size - 1 - t) := by
  rw [td_get, td_size]
  unfold Ten.lz Ten.bp
  simp

theorem mk_cap (c : Nat) (hn : c ≤ 1000000) (w : World) : (Instr.makeSlice 62 (.int .i64 0) (.int .i64 (c : Int))).run Tryz.prog w = .ok (.slice (some ⟨w.heap.size, 0, none⟩) 0 c) (w.alloc (.cells (madeCells #[.int .u64 0] c) 101)) := by
  obtain ⟨i0, hi, hz0, hz1, hz2⟩ := info_parts infoU64
  have := run_makeSlice (P := Tryz.prog) (w := w) 62 101 i0 (.int .u64 0) undU64s hi hz0 .i64 .i64 0 c (by omega) (by omega) (by rw [hz1]; omega) (by rw [hz2]; omega) (by omega)
  have e : (Value.int .u64 0).cells = #[.int .u64 0] := rfl
  rw [hz1, e] at this
  simpa using this
theorem ul_succ (x : Int) (n : Nat) : ul x n ++ [.int .u64 (lz x n)] = ul x (n + 1) := by
  unfold ul; rw [List.range_succ, List.map_append, List.map_singleton]
set_option maxHeartbeats 800000 in
set_option maxRecDepth 100000 in
theorem collect_any (n : Nat) (w : World) (hd : (td n).size ≤ 1000) :
    Calls Tryz.prog 90 #[.string (td n)] w (GivesN n w) := by
  obtain ⟨i0, hi, hz0, hz1, hz2⟩ := info_parts infoU64
  have hlt := dn_lt (x := (n : Int)) (by omega)
  have hsz : (td n).size = dn n := by rw [td_size]; rfl
  rw [← hsz] at hlt
  have hdig := fun k hk => td_dig n k hk
  have hlz := fun k hk => td_lz n k hk
  have hpos : 0 < (td n).size := by rw [hsz]; exact dn_pos _
  obtain ⟨D, hD⟩ : ∃ D, D = td n := ⟨_, rfl⟩
  rw [← hD] at hd hlt hdig hlz hpos ⊢
  have HLT := Lib.hid hlt
  have HDIG := Lib.hid hdig
  have HLZ := Lib.hid hlz
  have hmk := mk_cap (D.size / 9 + 1) (by omega)
  rw [show ((D.size / 9 + 1 : Nat) : Int) = (D.size : Int) / 9 + 1 by omega] at hmk
  clear hlt hdig hlz hsz hD
  have s0 : Slot (w.alloc (.cells #[.slice none 0 0] 64)) w.heap.size 0 (.slice none 0 0) := slot_new _ _ _ _ rfl
  have S0 := Lib.hid s0
  clear s0
  go_enter Tryz.func90, Tryz.ntmps90
  go_wp2
  go_loopw [3, 4] (fun v e wr => ∃ k : Nat, 9 * k < D.size + 9 ∧ e = .int .i64 ((D.size : Int) - 9 * (k : Int)) ∧ wr.ownsRow (w.heap.size + 1) 101 1 v k (ul n k) ∧ Below (w.heap.size + 1) (w.alloc (.cells #[.slice none 0 0] 64)) wr) (fun _ e _ => (intOf e).toNat)
  case atStart =>
    refine ⟨0, by omega, by simp, ⟨rfl, .inr ⟨w.heap.size + 1, D.size / 9 + 1, madeCells #[.int .u64 0] (D.size / 9 + 1), rfl, Nat.le_refl _, ?_, Nat.zero_le _, by unfold maxLen; omega, by rw [size_madeCells]; omega, rfl⟩⟩, (Below.refl _ _).alloc (by simp) _⟩
    show ((w.heap.push _).push _)[w.heap.size + 1]? = _
    rw [Array.getElem?_push, if_pos (by simp)]
  case round =>
    obtain ⟨k, hk, rfl, hown, hbel⟩ := hrel
    by_cases hc : 9 * k < D.size
    · obtain ⟨E, hE⟩ : ∃ E, E = D.size - 9 * k := ⟨_, rfl⟩
      obtain ⟨S, hS⟩ : ∃ S, S = D.size - 9 * k - 9 := ⟨_, rfl⟩
      rw [show ((D.size : Int) - 9 * (k : Int)) = (E : Int) by omega]
      have hmax : max (0 : Int) ((E : Int) - 9) = (S : Int) := by omega
      have hgl := grp_limb (u := (n : Int)) (len := D.size) (k := k) (by omega) HLT.out hc
      rw [← hS, ← hE] at hgl
      have HGL := Lib.hid hgl
      have hSE : S ≤ E := by omega
      have hSE9 : E ≤ S + 9 := by omega
      have hED : E ≤ D.size := by omega
      have hEp : 0 < E := by omega
      have g0 := grp_zero n D.size S
      have G0 := Lib.hid g0
      have HE := Lib.hid hE
      have OWN := Lib.hid hown
      have BEL := Lib.hid hbel
      have hsw := hbel.size
      simp only [World.size_alloc] at hsw
      clear hgl hE hS hown hbel g0 hmk
      go_wp2
      go_loop [5, 6] (fun l i => ∃ j : Nat, S ≤ j ∧ j ≤ E ∧ i = .int .i64 j ∧ l = .int .u64 (grp n D.size S j)) (fun _ i => E - (intOf i).toNat)
      case atStart => exact ⟨S, by omega, by omega, rfl, by rw [G0.out]⟩
      case round =>
        obtain ⟨j, hj1, hj2, rfl, rfl⟩ := hrel
        by_cases hlt : j < E
        · have hjd : j < D.size := by omega
          obtain ⟨b1, b2⟩ := HDIG.out j hjd
          have hl := HLZ.out j hjd
          have hst := grp_step (u := (n : Int)) (len := D.size) hj1 hjd
          obtain ⟨g1, g2⟩ := grp_bd (n : Int) D.size (s := S) (e := j) (by omega)
          have HL := Lib.hid hl
          have HST := Lib.hid hst
          clear hl hst
          generalize grp (n : Int) D.size S j = gv at *
          go_wp2
          go_round
          case rel => exact ⟨j + 1, by omega, by omega, by go_num, by rw [HST.out]; have := HL.out; congr 1; omega⟩
          case measure => simp [intOf]; omega
        · obtain rfl : j = E := by omega
          rw [HGL.out]
          go_wp2_with (at_builtin; refine wpList_append_own _ rfl _ _ 62 rfl (w.heap.size + 1) 101 i0 (.int .u64 0) 1 8 undU64s hi hz0 hz1 hz2 rfl (by decide) _ _ _ rfl (OWN.out.alloc _) ⟨wr.heap.size, 0, none⟩ 1 1 [.int .u64 (lz n k)] rfl rfl (cell_one_new _ _ _) ?c2 ?c3 ?c4 ?c5 ?_)
          case c2 => first | rfl | (intro u hu; simp at hu; subst hu; rfl)
          case c3 => unfold maxLen; omega
          case c4 => omega
          case c5 => first | omega | (simp; omega)
          · intro v' w1 hown' hgrow _
            rw [ul_succ] at hown'
            have hb1 : Below (w.heap.size + 1) (w.alloc (.cells #[.slice none 0 0] 64)) w1 := (BEL.out.alloc (by omega) _).grown hgrow (by simp; omega) (fun t ht => (OWN.out.lt t ht).1)
            have O1 := Lib.hid hown'
            have B1 := Lib.hid hb1
            have hEk := HE.out
            clear hown' hgrow hb1 OWN BEL
            go_wp2
            go_roundw
            case rel => exact ⟨k + 1, by omega, by congr 1; omega, O1.out, B1.out⟩
            case measure => simp [intOf]; omega
    · have hk0 : 0 < k := by omega
      obtain ⟨g, cap, rfl, hcap, hF⟩ := fresh_own (w := w.alloc (.cells #[.slice none 0 0] 64)) (x := (n : Int)) (n := k) (by simpa using hown) (by simpa using hbel) hk0
      have hnb : (n : Int) < bp k := by rw [bp_ten]; exact Int.lt_of_lt_of_le HLT.out (Ten.bp_mono (by omega))
      have hlen : ¬ (0 : Int) < (D.size : Int) - 9 * (k : Int) := by omega
      have HF := Lib.hid hF
      clear hown hbel hF
      go_wp2_with fail
      refine (trim_any _ k cap n wr (by omega) hnb hcap (by omega) HF.out.row).mono ?_
      rintro e w3 ⟨v, rfl, hv, hb⟩
      have hs3 := HF.out.below.size
      simp only [World.size_alloc] at hs3
      obtain ⟨q1, q2⟩ := (S0.out.below HF.out.below (by simp)).below hb (by omega)
      have HB3 := Lib.hid (((Below.refl w.heap.size w).alloc (Nat.le_refl _) (.cells #[.slice none 0 0] 64)).trans ((HF.out.below.mono (by simp)).trans (hb.mono (by omega))))
      have HV3 := Lib.hid hv
      obtain ⟨a', n', rfl, hn', _, _, _, _⟩ := hv.form
      have HN' := Lib.hid hn'
      clear hv hb hn'
      go_wp2
      exact bodyPost_ret (v := .agg #[.slice a' n' n']) (by simp [results, Tryz.results90, go_sem, q1]) rfl ⟨_, rfl, HV3.out.store q1 (fun _ e => by cases e) _, below_set HB3.out 0 (by omega) _⟩
end Go.Proofs.YtphbfjcaehiboaaGreatDoor
namespace Go.Proofs.YtphbfjcaehiboaaGreatDoor
open Go.RowKit

/-- w' is w and new blocks, but for n cells of block g from o on, which hold F 0, F 1 .. -/
structure CellsG (w w' : World) (g o n : Nat) (F : Nat → Value) : Prop where
  os : w'.os = w.os
  tape : w'.tape = w.tape
  output : w'.output = w.output
  size : w.heap.size ≤ w'.heap.size
  block : ∀ k, k < w.heap.size → k ≠ g → w'.heap[k]? = w.heap[k]?
  cells : ∀ j, j < n → w'.cell? ⟨g, o + j, none⟩ = some (F j)
  rest : ∀ i, i < o ∨ o + n ≤ i → w'.cell? ⟨g, i, none⟩ = w.cell? ⟨g, i, none⟩
  frozen : ∀ i, w'.frozen? ⟨g, i, none⟩ = w.frozen? ⟨g, i, none⟩
theorem CellsG.start {w : World} {g o n : Nat} {F : Nat → Value} (h : ∀ j, j < n → w.cell? ⟨g, o + j, none⟩ = some (F j)) : CellsG w w g o n F :=
  ⟨rfl, rfl, rfl, Nat.le_refl _, fun _ _ _ => rfl, h, fun _ _ => rfl, fun _ => rfl⟩
theorem CellsG.cong {w w' : World} {g o n : Nat} {F F' : Nat → Value} (h : CellsG w w' g o n F) (e : ∀ j, j < n → F' j = F j) : CellsG w w' g o n F' :=
  { h with cells := fun j hj => by rw [e j hj]; exact h.cells j hj }
theorem CellsG.set {w w' : World} {g o n : Nat} {F F' : Nat → Value} (h : CellsG w w' g o n F) {i : Nat} (hi : i < n) (t : Value) (e : ∀ j, j < n → F' j = if j = i then t else F j) :
    CellsG w (w'.setCell ⟨g, o + i, none⟩ t) g o n F' where
  os := h.os
  tape := h.tape
  output := h.output
  size := by rw [World.size_setCell]; exact h.size
  block := fun k hk hg => by rw [Below.heap_setCell _ _ _ _ hg]; exact h.block k hk hg
  cells := fun j hj => by
    rw [e j hj]
    by_cases hji : j = i
    · subst hji; rw [if_pos rfl, World.cell?_setCell_same w' _ _ (h.cells j hj)]
    · rw [if_neg hji, World.cell?_setCell_other w' _ _ _ (by intro e; injection e; omega), h.cells j hj]
  rest := fun k hk => by rw [World.cell?_setCell_other w' _ _ _ (by intro e; injection e; omega), h.rest k hk]
  frozen := fun k => by rw [World.frozen?_setCell]; exact h.frozen k
theorem CellsG.alloc {w w' : World} {g o n : Nat} {F : Nat → Value} (h : CellsG w w' g o n F) (hg : g < w.heap.size) (ob : Obj) : CellsG w (w'.alloc ob) g o n F where
  os := h.os
  tape := h.tape
  output := h.output
  size := by rw [World.size_alloc]; have := h.size; omega
  block := fun k hk hkg => by rw [Below.heap_alloc _ _ _ (by have := h.size; omega)]; exact h.block k hk hkg
  cells := fun j hj => by rw [World.cell?_alloc_past _ _ _ (by have := h.size; omega)]; exact h.cells j hj
  rest := fun k hk => by rw [World.cell?_alloc_past _ _ _ (by have := h.size; omega)]; exact h.rest k hk
  frozen := fun k => by rw [World.frozen?_alloc_past _ _ _ (by have := h.size; omega)]; exact h.frozen k
theorem CellsG.below {w w' : World} {g o n : Nat} {F : Nat → Value} {B : Nat} (h : CellsG w w' g o n F) (hB : B ≤ g) (hw : B ≤ w.heap.size) : Below B w w' :=
  ⟨h.os, h.tape, h.output, h.size, fun k hk => h.block k (by omega) (by omega)⟩
theorem CellsG.other {w w' : World} {g o n : Nat} {F : Nat → Value} (h : CellsG w w' g o n F) {b i : Nat} (hw : b < w.heap.size) (hb : b ≠ g) : w'.cell? ⟨b, i, none⟩ = w.cell? ⟨b, i, none⟩ := World.cell?_of_block (w := w) (h.block b hw hb)
theorem CellsG.after {w w1 w' : World} {g o n : Nat} {F : Nat → Value} (h : CellsG w1 w' g o n F) (hb : Below w.heap.size w w1) (hg : g < w.heap.size) : CellsG w w' g o n F :=
  ⟨h.os.trans hb.os, h.tape.trans hb.tape, h.output.trans hb.output, Nat.le_trans hb.size h.size, fun k hk hkg => (h.block k (Nat.lt_of_lt_of_le hk hb.size) hkg).trans (hb.block k hk), h.cells, fun i hi => (h.rest i hi).trans (below_at hb i hg), fun i => (h.frozen i).trans (below_atF hb i hg)⟩

/-- Byte j of the text of x, which has n digits. -/
def db (x : Int) (n j : Nat) : Int := 48 + Ten.lz x (n - 1 - j)
def GivesT (x : Int) (w : World) (g o n : Nat) (e : Ending) (w' : World) : Prop := e = .returned (.tuple #[]) ∧ CellsG w w' g o n (fun j => .int .u8 (db x n j))

theorem elem87 : Tryz.prog.elem 90 = 5 := by kernel_rfl
theorem und87 : Tryz.prog.underlying 90 = some (.slice (Tryz.prog.elem 90)) := by kernel_rfl
theorem size5 (w : World) : (Go.sizeOf 5).run Tryz.prog w = .ok 1 w := Tryz.sizeOf5 w
theorem slice_grp (g o S E n cap : Nat) (h1 : S < E) (h2 : E ≤ cap) (w : World) : (Instr.slice 90 (.slice (some ⟨g, o, none⟩) n cap) (some (.int .i64 (S : Int))) (some (.int .i64 (E : Int))) (some (.int .i64 (E : Int)))).run Tryz.prog w = .ok (.slice (some ⟨g, o + S, none⟩) (E - S) (E - S)) w := by
  rw [run_slice_lhm (ht := und87) (h0 := by omega) (h1 := by omega) (h2 := by omega) (h3 := by omega), elem87, size5]
  simp only [Result.andThen, sliced]
  rw [Int.toNat_natCast, Int.toNat_natCast, if_neg (by omega)]
  simp [Addr.add]

set_option maxHeartbeats 1000000 in
set_option maxRecDepth 100000 in
theorem write_pos (u : Value) (x : Int) (g o n c : Nat) (w : World) (hu : NatV w u x) (hx : 0 < x) (hn : n = dn x) (hc : n ≤ c) (hm : n ≤ 100000) (hg : g < w.heap.size)
    (hu2 : ∀ a m k, u = .slice (some ⟨g, a, none⟩) m k → m = 0) (F : Nat → Value) (ht : ∀ j, j < n → w.cell? ⟨g, o + j, none⟩ = some (F j)) (hf : ∀ j, j < n → w.frozen? ⟨g, o + j, none⟩ = false) :
    Calls Tryz.prog 94 #[.agg #[u], .slice (some ⟨g, o, none⟩) n c] w (GivesT x w g o n) := by
  have hnl := nl_pos hx
  have hdn1 := dn_nl (x := x) (by omega)
  have hdn2 := nl_dn (x := x) (by omega)
  have hdn3 : n ≤ 9 * nl x := by
    obtain ⟨k, hk⟩ : ∃ k, nl x = k + 1 := ⟨nl x - 1, by omega⟩
    have := dn_split (by omega) hk
    have := ten_nl_limb x k
    omega
  have HU := Lib.hid hu
  obtain ⟨a, m, rfl, hm2, hm3, hx0, hx1, hrx⟩ := hu.form
  rw [← hm2] at hnl hdn1 hdn2 hdn3
  rw [← hn] at hdn1 hdn2
  obtain ⟨g', o', rfl, hg', hcx⟩ := hrx hnl
  have hgg : g' ≠ g := fun e => by subst e; have := hu2 o' m m rfl; omega
  have HT := Lib.hid ht
  have HF := Lib.hid hf
  have HCX := Lib.hid hcx
  have hd0 : decide (x = 0) = false := decide_eq_false (by omega)
  have HD0 := Lib.hid hd0
  clear hu hm2 hx1 hrx hn ht hf hcx hu2 hd0
  have hb0 : Below w.heap.size w (w.alloc (.cells #[.slice (some ⟨g', o', none⟩) m m] 64)) := (Below.refl _ _).alloc (Nat.le_refl _) _
  obtain ⟨W0, hW0⟩ : ∃ W0, W0 = w.alloc (.cells #[.slice (some ⟨g', o', none⟩) m m] 64) := ⟨_, rfl⟩
  rw [← hW0] at hb0
  have z0 : W0.heap.size = w.heap.size + 1 := by rw [hW0]; simp
  have s0 : W0.cell? ⟨w.heap.size, 0, none⟩ = some (.slice (some ⟨g', o', none⟩) m m) := by rw [hW0]; simp
  have B0 := Lib.hid hb0
  have Z0 := Lib.hid z0
  have S0 := Lib.hid s0
  clear hb0 z0 s0
  go_enter Tryz.func94, Tryz.ntmps94
  go_wp2
  rw [← hW0]
  clear hW0
  go_loopw [4, 15] (fun e i wr => ∃ (k : Nat) (f : Nat → Int), k ≤ m ∧ i = .int .i64 k ∧ e = .int .i64 ((n - 9 * k : Nat) : Int) ∧ CellsG W0 wr g o n (fun j => if n - 9 * k ≤ j then .int .u8 (db x n j) else F j)) (fun _ i _ => m - (intOf i).toNat)
  case atStart => exact ⟨0, fun _ => 0, by omega, rfl, rfl, CellsG.start (fun j hj => by rw [if_neg (by omega)]; exact (below_at B0.out _ hg).trans (HT.out j hj))⟩
  case round =>
    obtain ⟨k, f, hk, rfl, rfl, hC⟩ := hrel
    have HC := Lib.hid hC
    clear hC
    have z0 := Z0.out
    by_cases hlt : k < m
    · have hc1 := (HC.out.other (i := o' + k) (by omega) hgg).trans ((below_at B0.out (o' + k) hg').trans (HCX.out k hlt))
      obtain ⟨E, hE⟩ : ∃ E, E = n - 9 * k := ⟨_, rfl⟩
      obtain ⟨S, hS⟩ : ∃ S, S = n - 9 * k - 9 := ⟨_, rfl⟩
      rw [← hE]
      have hES : S < E := by omega
      have hEn : E ≤ n := by omega
      have hE9 : E ≤ S + 9 := by omega
      have hS2 : S = n - 9 * (k + 1) := by omega
      have hmax : max (0 : Int) ((E : Int) - 9) = (S : Int) := by omega
      have hsl := slice_grp g o S E n c hES (by omega)
      have hb1 := lz_bd x k
      have hlz0 : lz x k = lz x k / Ten.bp 0 := by rw [Ten.bp_zero]; omega
      have L0 := Lib.hid hlz0
      have HE := Lib.hid hE
      have HS2 := Lib.hid hS2
      have hcast : ((E - S : Nat) : Int) - 1 = (E : Int) - (S : Int) - 1 := by omega
      have HCA := Lib.hid hcast
      clear hE hS hS2 hlz0 hcast
      obtain ⟨lx, hlx⟩ : ∃ lx, lx = lz x k := ⟨_, rfl⟩
      rw [← hlx] at hc1 hb1 L0
      have HLX := Lib.hid hlx
      clear hlx
      rename World => wo
      go_wp2
      go_loopw [6, 9] (fun l i wr => ∃ s : Nat, s ≤ E - S ∧ i = .int .i64 (((E - S : Nat) : Int) - 1 - (s : Int)) ∧ l = .int .u64 (lx / Ten.bp s) ∧ CellsG W0 wr g o n (fun j => if n - (9 * k + s) ≤ j then .int .u8 (db x n j) else F j)) (fun _ i _ => (intOf i + 1).toNat)
      case atStart => exact ⟨0, by omega, by go_num, by rw [← L0.out], HC.out⟩
      case round =>
        obtain ⟨s, hs, rfl, rfl, hC2⟩ := hrel
        have C2 := Lib.hid hC2
        clear hC2
        have p0 := Int.ediv_nonneg hb1.1 (Int.le_of_lt (Ten.bp_pos s))
        have p1 := Int.ediv_le_self (Ten.bp s) hb1.1
        by_cases hsl2 : s < E - S
        · obtain ⟨r, hr⟩ : ∃ r, r = E - S - 1 - s := ⟨_, rfl⟩
          rw [show (((E - S : Nat) : Int) - 1 - (s : Int)) = (r : Int) by omega]
          have hrr : r < E - S := by omega
          have hpos : S + r = n - (9 * k + s) - 1 := by have := HE.out; omega
          have hSr : S + r < n := by omega
          have hSr2 : ¬ n - (9 * k + s) ≤ S + r := by have := HE.out; omega
          have c1 := C2.out.cells (S + r) hSr
          rw [if_neg hSr2, ← Nat.add_assoc] at c1
          have c2 := (C2.out.frozen (o + (S + r))).trans ((below_atF B0.out _ hg).trans (HF.out (S + r) hSr))
          rw [← Nat.add_assoc] at c2
          have hdg : (lx / Ten.bp s) % 10 = Ten.lz x (9 * k + s) := by rw [HLX.out]; exact lz_digit x k s (by omega)
          have hdiv : lx / Ten.bp s / 10 = lx / Ten.bp (s + 1) := (Ten.div_succ lx s).symm
          have hset : CellsG W0 (wr.setCell ⟨g, o + S + r, none⟩ (.int .u8 (48 + (lx / Ten.bp s) % 10))) g o n (fun j => if n - (9 * k + (s + 1)) ≤ j then .int .u8 (db x n j) else F j) := by
            have := C2.out.set (i := S + r) hSr (.int .u8 (48 + (lx / Ten.bp s) % 10)) (F' := fun j => if n - (9 * k + (s + 1)) ≤ j then .int .u8 (db x n j) else F j) (fun j hj => by
              by_cases e : j = S + r
              · subst e
                rw [if_pos (by have := HE.out; omega), if_pos rfl, hdg]
                unfold db
                rw [show n - 1 - (S + r) = 9 * k + s by have := HE.out; omega]
              · rw [if_neg e]
                by_cases h2 : n - (9 * k + s) ≤ j
                · rw [if_pos h2, if_pos (by omega)]
                · rw [if_neg h2, if_neg (by have := HE.out; omega)])
            rwa [← Nat.add_assoc] at this
          have SET := Lib.hid hset
          have DIV := Lib.hid hdiv
          have HR := Lib.hid hr
          clear hdg hdiv hset hpos hr
          generalize lx / Ten.bp s = lv at *
          go_wp2
          go_roundw
          case rel => exact ⟨s + 1, by have := HR.out; omega, by have := HR.out; congr 1; omega, by rw [← DIV.out], SET.out⟩
          case measure => have := HR.out; simp [intOf]
        · obtain rfl : s = E - S := by omega
          have hEk : n - (9 * k + (E - S)) = n - 9 * (k + 1) := by have := HE.out; have := HS2.out; omega
          have hC3 : CellsG W0 wr g o n (fun j => if n - 9 * (k + 1) ≤ j then .int .u8 (db x n j) else F j) := by have := C2.out; rwa [hEk] at this
          have C3 := Lib.hid hC3
          clear hC3 hEk
          go_wp2
          go_roundw
          case rel => exact ⟨k + 1, f, by omega, by go_num, by rw [HS2.out], C3.out⟩
          case measure => simp [intOf]; omega
    · obtain rfl : k = m := by omega
      have c0 := (HC.out.other (b := w.heap.size) (i := 0) (by omega) (by omega)).trans S0.out
      have hfin : CellsG W0 wr g o n (fun j => .int .u8 (db x n j)) := HC.out.cong (fun j hj => by rw [if_pos (by omega)])
      have FIN := Lib.hid (hfin.after B0.out hg)
      have hnz : NatV wr (.slice (some ⟨g', o', none⟩) k k) x := by
        obtain ⟨h1, h2, a, h3, h4⟩ := HU.out
        refine ⟨h1, h2, a, h3, fun h0 => ?_⟩
        obtain ⟨g2, o2, e2, hg2, hcc⟩ := h4 h0
        have e3 : some (⟨g', o', none⟩ : Addr) = some ⟨g2, o2, none⟩ := by rw [← e2]; injection h3
        have e4 : g' = g2 := by injection e3 with e3; injection e3
        refine ⟨g2, o2, e2, by have := hfin.size; omega, fun j hj => ?_⟩
        exact (hfin.other (i := o2 + j) (by omega) (by omega)).trans ((below_at B0.out _ hg2).trans (hcc j hj))
      have NZ := Lib.hid hnz
      clear hfin hnz
      go_wp2_with fail
      refine (isZero_any _ x wr NZ.out).mono ?_
      rintro e w' ⟨rfl, rfl⟩
      rw [HD0.out]
      go_wp2
      go_end0
      exact ⟨rfl, FIN.out.alloc hg _⟩
end Go.Proofs.YtphbfjcaehiboaaGreatDoor
namespace Go.Proofs.YtphbfjcaehiboaaGreatDoor
open Go.RowKit

theorem write_zero (u : Value) (g o c : Nat) (w : World) (hu : NatV w u 0) (_hc : 1 ≤ c) (hg : g < w.heap.size) (F : Nat → Value) (ht : ∀ j, j < 1 → w.cell? ⟨g, o + j, none⟩ = some (F j)) (hf : ∀ j, j < 1 → w.frozen? ⟨g, o + j, none⟩ = false) :
    Calls Tryz.prog 94 #[.agg #[u], .slice (some ⟨g, o, none⟩) 1 c] w (GivesT 0 w g o 1) := by
  have HU := Lib.hid hu
  obtain ⟨_, _, a, rfl, _⟩ := hu
  rw [nl_zero] at HU ⊢
  have h1 := ht 0 (by omega)
  have h2 := hf 0 (by omega)
  rw [Nat.add_zero] at h1 h2
  have hb0 : Below w.heap.size w (w.alloc (.cells #[.slice a 0 0] 64)) := (Below.refl _ _).alloc (Nat.le_refl _) _
  have NZ := Lib.hid (HU.out.below hb0)
  have hfin : CellsG w (((w.setCell ⟨g, o + 0, none⟩ (.int .u8 48)).alloc (.cells #[.slice a 0 0] 64)).alloc (.cells #[.slice a 0 0] 64)) g o 1 (fun j => .int .u8 (db 0 1 j)) :=
    (((CellsG.start ht).set (by omega) (.int .u8 48) (fun j hj => by
      have : j = 0 := by omega
      subst this
      rw [if_pos rfl]
      unfold db
      rw [Ten.lz_zero]
      rfl)).alloc hg _).alloc hg _
  rw [Nat.add_zero] at hfin
  have FIN := Lib.hid hfin
  clear ht hf hb0 hfin
  go_enter Tryz.func94, Tryz.ntmps94
  go_wp2
  refine wp_loop_rounds 1 ?_
  rw [rounds_succ]
  go_wp2_with fail
  refine (isZero_any _ 0 _ NZ.out).mono ?_
  rintro e w' ⟨rfl, rfl⟩
  rw [decide_eq_true rfl]
  go_wp2
  go_end0
  exact ⟨rfl, FIN.out⟩

theorem write_any (u : Value) (x : Int) (g o n c : Nat) (w : World) (hu : NatV w u x) (hn : n = dn x) (hc : n ≤ c) (hm : n ≤ 100000) (hg : g < w.heap.size)
    (hu2 : ∀ a m k, u = .slice (some ⟨g, a, none⟩) m k → m = 0) (F : Nat → Value) (ht : ∀ j, j < n → w.cell? ⟨g, o + j, none⟩ = some (F j)) (hf : ∀ j, j < n → w.frozen? ⟨g, o + j, none⟩ = false) :
    Calls Tryz.prog 94 #[.agg #[u], .slice (some ⟨g, o, none⟩) n c] w (GivesT x w g o n) := by
  rcases Int.lt_or_le 0 x with h | h
  · exact write_pos u x g o n c w hu h hn hc hm hg hu2 F ht hf
  · have := hu.1
    obtain rfl : x = 0 := by omega
    rw [dn_zero] at hn
    subst hn
    exact write_zero u g o c w hu hc hg F ht hf

theorem infoU8 : (Tryz.prog.info? 5).map (fun i => (i.zero, i.size, i.bytes)) = some (some (.int .u8 0), 1, 1) := by kernel_rfl
theorem undU8s : Tryz.prog.underlying 90 = some (.slice 5) := by kernel_rfl
theorem undU8 : Tryz.prog.underlying 5 = some (.int .u8) := by kernel_rfl
theorem undInt : Tryz.prog.underlying 22 = some .string := by kernel_rfl
theorem mk_u8 (n : Nat) (hn : n ≤ 1000000) (w : World) : (Instr.makeSlice 90 (.int .i64 (n : Int)) (.int .i64 (n : Int))).run Tryz.prog w = .ok (.slice (some ⟨w.heap.size, 0, none⟩) n n) (w.alloc (.cells (madeCells #[.int .u8 0] n) 5)) :=
  run_make_row' _ _ (.int .u8 0) 1 undU8s infoU8 rfl .i64 .i64 n (by omega) (by omega) w

theorem made8_get (n j : Nat) (h : j < n) : (madeCells #[Value.int .u8 0] n)[j]? = some (.int .u8 0) := by
  unfold madeCells
  simp [h, Nat.mod_one]
theorem slice_one (g n : Nat) (w : World) : (Instr.slice 90 (.slice (some ⟨g, 0, none⟩) (n + 1) (n + 1)) (some (.int .i64 1)) none none).run Tryz.prog w = .ok (if n = 0 then .slice (some ⟨g, 0, none⟩) 0 0 else .slice (some ⟨g, 1, none⟩) n n) w := by
  rw [run_slice_l (ht := und87) (h0 := by omega) (h1 := by omega), elem87, size5]
  simp only [Result.andThen, sliced]
  by_cases h : n = 0
  · subst h; simp
  · rw [if_neg (by simp; omega), if_neg h]
    simp [Addr.add]
/-- The bytes that are written are the text. -/
theorem db_list (z : Int) : (List.range (dn z)).map (fun j => UInt8.ofNat (db z.natAbs (dn z) j).toNat) = Lib.decDigits z.natAbs := by
  rw [Lib.decDigits_eq]
  unfold dn
  refine List.map_congr_left fun j _ => ?_
  unfold db Lib.dg
  congr 1
theorem str_digits (z : Int) : strOfNums ((List.range (dn z)).map (fun j => db z.natAbs (dn z) j)) = td z.natAbs := by
  unfold strOfNums td
  rw [List.map_map, ← db_list]
  rfl
theorem str_signed {z : Int} (hz : z < 0) : strOfNums (45 :: (List.range (dn z)).map (fun j => db z.natAbs (dn z) j)) = tx z := by
  unfold strOfNums tx Lib.itoa
  rw [if_pos hz, List.map_cons, List.map_map, ← db_list]
  rfl
/-- The conversions of the whole row and of what stands behind its first byte. -/
theorem conv_tail (g : Nat) (z : Int) (c : Nat) (w : World) (h : ∀ j, j < dn z → w.cell? ⟨g, 1 + j, none⟩ = some (.int .u8 (db z.natAbs (dn z) j))) :
    (convert 90 22 (.slice (some ⟨g, 1, none⟩) (dn z) c)).run Tryz.prog w = .ok (.string (td z.natAbs)) w := by
  rw [run_convert_bytes_arg w 90 5 undU8s undU8 g 1 (dn z) c ((List.range (dn z)).map (fun j => db z.natAbs (dn z) j)) (by simp) (fun j hj => by rw [h j hj]; simp [List.getD, hj]) _ undInt, str_digits]
theorem conv_all (g : Nat) (z : Int) (hz : z < 0) (c : Nat) (w : World) (h0 : w.cell? ⟨g, 0, none⟩ = some (.int .u8 45)) (h : ∀ j, j < dn z → w.cell? ⟨g, 1 + j, none⟩ = some (.int .u8 (db z.natAbs (dn z) j))) :
    (convert 90 22 (.slice (some ⟨g, 0, none⟩) (dn z + 1) c)).run Tryz.prog w = .ok (.string (tx z)) w := by
  rw [run_convert_bytes_arg w 90 5 undU8s undU8 g 0 (dn z + 1) c (45 :: (List.range (dn z)).map (fun j => db z.natAbs (dn z) j)) (by simp) (fun j hj => by
    cases j with
    | zero => exact h0
    | succ j => rw [Nat.zero_add, Nat.add_comm j 1, h j (by omega), Nat.add_comm 1 j]; simp [List.getD, show j < dn z by omega]) _ undInt, str_signed hz]

/-- What an operation on integers hands back. -/
def GivesX (z : Int) (w : World) (e : Ending) (w' : World) : Prop := e = .returned (.tuple #[.string (if dn z ≤ 1000 then tx z else ⟨#[]⟩), .int .i64 (if dn z ≤ 1000 then 0 else 3)]) ∧ Below w.heap.size w w'

theorem text_long (v : Value) (z : Int) (w : World) (hv : NatV w v z.natAbs) (hd : 1000 < dn z) (hd2 : dn z ≤ 9000000) :
    Calls Tryz.prog 60 #[.agg #[v, .bool (decide (z < 0))]] w (GivesX z w) := by
  have HV := Lib.hid hv
  obtain ⟨a, m, rfl, hm2, hm3, hx0, hx1, hrx⟩ := hv.form
  have hp : (if dn z ≤ 1000 then tx z else (⟨#[]⟩ : ByteArray)) = ⟨#[]⟩ := if_neg (by omega)
  have hq : (if dn z ≤ 1000 then (0 : Int) else 3) = 3 := if_neg (by omega)
  have HP := Lib.hid hp
  have HQ := Lib.hid hq
  obtain ⟨b, hb⟩ : ∃ b, b = decide (z < 0) := ⟨_, rfl⟩
  rw [← hb]
  have hb0 : Below w.heap.size w (w.alloc (.cells #[.slice a m m, .bool b] 66)) := (Below.refl _ _).alloc (Nat.le_refl _) _
  have hdig := digits_any _ _ _ (HV.out.below hb0)
  rw [dn_abs] at hdig
  have HD := Lib.hid hdig
  have B0 := Lib.hid hb0
  obtain ⟨N, hN⟩ : ∃ N, N = dn z := ⟨_, rfl⟩
  rw [← hN] at HD hd hd2
  clear hv hm2 hrx hx1 hp hq hb hb0 hdig hN
  go_enter Tryz.func60, Tryz.ntmps60
  go_wp2_with fail
  refine HD.out.mono ?_
  rintro e w1 ⟨rfl, hb1⟩
  have B1 := Lib.hid (B0.out.trans (hb1.mono (by simp)))
  clear hb1
  have hgt : decide ((1000 : Int) < (N : Int)) = true := decide_eq_true (by omega)
  go_wp2
  go_ret2
  exact ⟨by rw [HP.out, HQ.out]; rfl, B1.out⟩

set_option maxHeartbeats 1000000 in
theorem text_short (v : Value) (z : Int) (w : World) (hv : NatV w v z.natAbs) (hd : dn z ≤ 1000) :
    Calls Tryz.prog 60 #[.agg #[v, .bool (decide (z < 0))]] w (GivesX z w) := by
  have HV := Lib.hid hv
  obtain ⟨a, m, rfl, hm2, hm3, hx0, hx1, hrx⟩ := hv.form
  have hp : (if dn z ≤ 1000 then tx z else (⟨#[]⟩ : ByteArray)) = tx z := if_pos hd
  have hq : (if dn z ≤ 1000 then (0 : Int) else 3) = 0 := if_pos hd
  have HP := Lib.hid hp
  have HQ := Lib.hid hq
  obtain ⟨b, hb⟩ : ∃ b, b = decide (z < 0) := ⟨_, rfl⟩
  rw [← hb]
  obtain ⟨W0, hW0⟩ : ∃ W0, W0 = w.alloc (.cells #[.slice a m m, .bool b] 66) := ⟨_, rfl⟩
  have hb0 : Below w.heap.size w W0 := by rw [hW0]; exact (Below.refl _ _).alloc (Nat.le_refl _) _
  have z0 : W0.heap.size = w.heap.size + 1 := by rw [hW0]; simp
  have s0 : Slot W0 w.heap.size 0 (.slice a m m) := by rw [hW0]; exact ⟨by simp, by simp⟩
  have s1 : Slot W0 w.heap.size 1 (.bool b) := by rw [hW0]; exact ⟨by simp, by simp⟩
  have hdig := digits_any _ _ _ (HV.out.below hb0)
  rw [dn_abs] at hdig
  have HD := Lib.hid hdig
  have B0 := Lib.hid hb0
  have HRX := Lib.hid hrx
  obtain ⟨N, hN⟩ : ∃ N, N = dn z := ⟨_, rfl⟩
  have hmk := mk_u8 (N + 1) (by omega)
  rw [show ((N + 1 : Nat) : Int) = (N : Int) + 1 by omega] at hmk
  rw [← hN] at HD hd
  have hdp := dn_pos z
  rw [← hN] at hdp
  have HN := Lib.hid hN
  have HB := Lib.hid hb
  clear hv hm2 hrx hx1 hp hq hb hb0 hdig hN
  go_enter Tryz.func60, Tryz.ntmps60
  go_wp2_with fail
  rw [← hW0]
  clear hW0
  refine HD.out.mono ?_
  rintro e w1 ⟨rfl, hb1⟩
  obtain ⟨p0, _⟩ := s0.below hb1 (by omega)
  obtain ⟨p1, _⟩ := s1.below hb1 (by omega)
  have hs1 := hb1.size
  have B1 := Lib.hid (B0.out.trans (hb1.mono (by omega)))
  clear hb1 s0 s1
  have hm0 := made8_get (N + 1) 0 (by omega)
  have hsl := slice_one w1.heap.size N
  have hN0 : ¬ N = 0 := by omega
  simp only [if_neg hN0] at hsl
  clear hN0
  go_wp2_with fail
  clear hmk
  obtain ⟨A, hA⟩ : ∃ A, A = (madeCells #[Value.int .u8 0] (N + 1)).setIfInBounds 0 (Value.int .u8 45) := ⟨_, rfl⟩
  rw [← hA]
  have a0 : A[0]? = some (.int .u8 45) := by rw [hA]; simp [size_madeCells]
  have a1 : ∀ j, j < N → A[1 + j]? = some (.int .u8 0) := fun j hj => by
    rw [hA, Array.getElem?_setIfInBounds, if_neg (by omega)]; exact made8_get _ _ (by omega)
  obtain ⟨W2, hW2⟩ : ∃ W2, W2 = w1.alloc (.cells A 5) := ⟨_, rfl⟩
  rw [← hW2]
  have b2 : Below w1.heap.size w1 W2 := by rw [hW2]; exact (Below.refl _ _).alloc (Nat.le_refl _) _
  have z2 : W2.heap.size = w1.heap.size + 1 := by rw [hW2]; simp
  have c0 : W2.cell? ⟨w1.heap.size, 0, none⟩ = some (.int .u8 45) := by rw [hW2, World.cell?_alloc_new]; exact a0
  have c1 : ∀ j, j < N → W2.cell? ⟨w1.heap.size, 1 + j, none⟩ = some (.int .u8 0) := fun j hj => by rw [hW2, World.cell?_alloc_new]; exact a1 j hj
  have c2 : ∀ j, W2.frozen? ⟨w1.heap.size, j, none⟩ = false := fun j => by rw [hW2, World.frozen?_alloc_new]
  have q0 := (below_at b2 0 (show w.heap.size < w1.heap.size by omega)).trans p0
  have q1 := (below_at b2 1 (show w.heap.size < w1.heap.size by omega)).trans p1
  have hnv : NatV W2 (.slice a m m) z.natAbs := HV.out.below (B1.out.trans (b2.mono (by omega)))
  have hnb : ∀ o' m' k', (Value.slice a m m) = .slice (some ⟨w1.heap.size, o', none⟩) m' k' → m' = 0 := by
    intro o' m' k' e
    injection e with e1 e2 e3
    rcases Nat.eq_zero_or_pos m with h | h
    · omega
    · obtain ⟨g, o, e4, hg, _⟩ := HRX.out h
      rw [e1] at e4
      injection e4 with e4
      injection e4 with e4
      omega
  have NV := Lib.hid hnv
  have NB := Lib.hid hnb
  have B2 := Lib.hid (B1.out.trans (b2.mono (show w.heap.size ≤ w1.heap.size by omega)))
  have C1 := Lib.hid c1
  have C2 := Lib.hid c2
  have C0 := Lib.hid c0
  have HNa : Hid (N = dn (z.natAbs : Int)) := by show _ = _; rw [dn_abs]; exact HN.out
  clear hA a0 a1 hW2 b2 c0 c1 c2 hnv hnb hm0 p0 p1
  go_region_with (go_at_call 94; refine (write_any _ z.natAbs w1.heap.size 1 N N _ (by exact NV.out) HNa.out (by omega) (by omega) (by exact z2 ▸ Nat.lt_succ_self _) NB.out (fun _ => .int .u8 0) (by exact C1.out) (by exact fun j _ => C2.out (1 + j))).mono ?_; rintro e w5 ⟨rfl, hC⟩; have C5 := Lib.hid hC; clear hC)
  all_goals
    have t1 : w5.cell? ⟨w.heap.size, 1, none⟩ = some (.bool b) := (C5.out.other (b := w.heap.size) (i := 1) (by show _ < W2.heap.size; omega) (by omega)).trans q1
    have t2 : w5.cell? ⟨w1.heap.size, 0, none⟩ = some (.int .u8 45) := (C5.out.rest 0 (.inl (by omega))).trans C0.out
    have hbe : Below w1.heap.size W2.drew w5 := C5.out.below (Nat.le_refl _) (by show _ ≤ W2.heap.size; omega)
    have B5 := Lib.hid ((B2.out.drew).trans (hbe.mono (show w.heap.size ≤ w1.heap.size by omega)))
    have hcl := C5.out.cells
    rw [HN.out] at hcl
    clear hbe q0 q1 hsl
    by_cases hz : z < 0
    · have hcv := conv_all w1.heap.size z hz (N + 1) w5 t2 hcl
      rw [← HN.out] at hcv
      have hbt : b = true := by rw [HB.out]; exact decide_eq_true hz
      subst hbt
      clear t2 hcl hz
      go_wp2
      go_ret2
      exact ⟨by rw [HP.out, HQ.out]; rfl, B5.out⟩
    · have hcv := conv_tail w1.heap.size z N w5 hcl
      rw [← HN.out, ← tx_pos (by omega)] at hcv
      have hbt : b = false := by rw [HB.out]; exact decide_eq_false hz
      have hsl := slice_one w1.heap.size N
      simp only [if_neg (show ¬ N = 0 by omega)] at hsl
      subst hbt
      clear t2 hcl hz
      go_wp2
      go_ret2
      exact ⟨by rw [HP.out, HQ.out]; rfl, B5.out⟩
theorem text_any (v : Value) (z : Int) (w : World) (hv : NatV w v z.natAbs) :
    Calls Tryz.prog 60 #[.agg #[v, .bool (decide (z < 0))]] w (GivesX z w) := by
  rcases Nat.lt_or_ge 1000 (dn z) with h | h
  · have h1 := dn_nl hv.1
    rw [dn_abs] at h1
    have h2 := hv.2.1
    exact text_long v z w hv h (by omega)
  · exact text_short v z w hv h
end Go.Proofs.YtphbfjcaehiboaaGreatDoor
namespace Go.Proofs.YtphbfjcaehiboaaGreatDoor
open Go.RowKit

theorem below_undrew {w w' : World} (h : Below w.drew.heap.size w.drew w') : Below w.heap.size w w' := ⟨h.os, h.tape, h.output, h.size, h.block⟩
/-- The call hands back the integer z and true. -/
def GivesP (z : Int) (w : World) (e : Ending) (w' : World) : Prop := ∃ v, e = .returned (.tuple #[.agg #[v, .bool (decide (z < 0))], .bool true]) ∧ NatV w' v z.natAbs ∧ Below w.heap.size w w'
def GivesP0 (w : World) (e : Ending) (w' : World) : Prop := e = .returned (.tuple #[.agg #[.slice none 0 0, .bool false], .bool false]) ∧ Below w.heap.size w w'
/-- Stores over an empty number leave the numbers as they are. -/
theorem storeN {w : World} {v : Value} {x : Int} (h : NatV w v x) {r : Nat} (h1 : w.cell? ⟨r, 0, none⟩ = some (.slice none 0 0)) (h2 : w.cell? ⟨r, 1, none⟩ = some (.bool false)) (a b : Value) : NatV ((w.setCell ⟨r, 0, none⟩ a).setCell ⟨r, 1, none⟩ b) v x :=
  (h.store h1 (fun _ e => by cases e) a).store (u0 := .bool false) (by rw [World.cell?_setCell_other w _ _ _ (by intro e; injection e; omega)]; exact h2) (fun _ e => by cases e) b
/-- The slot of a number that is handed back. -/
structure Res (w : World) (r : Nat) : Prop where
  c0 : w.cell? ⟨r, 0, none⟩ = some (.slice none 0 0)
  c1 : w.cell? ⟨r, 1, none⟩ = some (.bool false)
  f0 : w.frozen? ⟨r, 0, none⟩ = false
  f1 : w.frozen? ⟨r, 1, none⟩ = false
theorem Res.new (w : World) (t : TypeId) (r : Nat) (hr : r = w.heap.size) : Res (w.alloc (.cells #[.slice none 0 0, .bool false] t)) r :=
  ⟨by rw [World.cell?_alloc_at _ _ _ _ hr]; rfl, by rw [World.cell?_alloc_at _ _ _ _ hr]; rfl, by rw [World.frozen?_alloc_at _ _ _ _ hr], by rw [World.frozen?_alloc_at _ _ _ _ hr]⟩
theorem Res.below {w w' : World} {r B : Nat} (h : Res w r) (hb : Below B w w') (hr : r < B) : Res w' r :=
  ⟨(below_at hb 0 hr).trans h.c0, (below_at hb 1 hr).trans h.c1, (below_atF hb 0 hr).trans h.f0, (below_atF hb 1 hr).trans h.f1⟩

theorem parse_tx (z : Int) (w : World) (hz : dn z ≤ 1000) :
    Calls Tryz.prog 57 #[.string (tx z)] w (GivesP z w) := by
  have hsp := fun w => split_tx z w hz
  have SP := Lib.hid hsp
  have hco := fun w => collect_any z.natAbs w (by rw [td_size]; exact hz)
  have CO := Lib.hid hco
  have s0 := Res.new w 66 w.heap.size rfl
  have S0 := Lib.hid s0
  have hb0 : Below w.heap.size w (w.alloc (.cells #[.slice none 0 0, .bool false] 66)) := (Below.refl _ _).alloc (Nat.le_refl _) _
  have B0 := Lib.hid hb0
  clear hsp hco s0 hb0
  go_enter Tryz.func57, Tryz.ntmps57
  go_wp2_with fail
  refine (SP.out _).mono ?_
  rintro e w' ⟨rfl, rfl⟩
  go_wp2_with fail
  refine (CO.out _).mono ?_
  rintro e w1 ⟨v1, rfl, hv1, hb1⟩
  have hs1 := hb1.size
  simp only [World.size_alloc] at hs1
  have s1 := S0.out.below hb1 (by simp)
  have B1 := Lib.hid (B0.out.trans (hb1.mono (by simp)))
  clear hb1
  go_wp2_with fail
  refine (signed_any v1 (decide (z < 0)) z.natAbs w1 hv1).mono ?_
  have ez : (if decide (z < 0) = true then -(z.natAbs : Int) else (z.natAbs : Int)) = z := by
    by_cases h : z < 0
    · rw [if_pos (decide_eq_true h)]; omega
    · rw [if_neg (by simpa using h)]; omega
  rw [ez]
  rintro e w2 ⟨v2, rfl, hv2, hb2⟩
  obtain ⟨q0, q1, q2, q3⟩ := s1.below hb2 (by omega)
  have B2 := Lib.hid (B1.out.trans (hb2.mono (by omega)))
  have HV := Lib.hid hv2
  obtain ⟨a', n', rfl, hn', _, _, _, _⟩ := hv2.form
  have HN' := Lib.hid hn'
  obtain ⟨b, hb⟩ : ∃ b, b = decide (z < 0) := ⟨_, rfl⟩
  rw [← hb]
  have HBb := Lib.hid hb
  clear hv1 hv2 hb2 hn' s1 ez hb
  go_wp2
  exact bodyPost_ret (v := .tuple #[.agg #[.slice a' n' n', .bool b], .bool true]) (by simp [results, Tryz.results57, go_sem, q0, q1]) rfl ⟨_, by rw [HBb.out], storeN HV.out q0 q1 _ _, below_set (below_set B2.out 0 (by omega) _) 1 (by omega) _⟩

theorem parse_no (s : ByteArray) (w : World) (hm : s.size ≤ 9223372036854775807) (h : isT s.data.toList = false) :
    Calls Tryz.prog 57 #[.string s] w (GivesP0 w) := by
  have hsp := fun w => split_no s w hm h
  have SP := Lib.hid hsp
  clear hsp h
  go_enter Tryz.func57, Tryz.ntmps57
  go_wp2_with fail
  refine (SP.out _).mono ?_
  rintro e w' ⟨rfl, rfl⟩
  go_wp2
  exact bodyPost_ret (v := .tuple #[.agg #[.slice none 0 0, .bool false], .bool false]) (by simp [results, Tryz.results57, go_sem]) rfl ⟨rfl, (Below.refl _ _).alloc (Nat.le_refl _) _⟩

/-! ### plus -/
theorem cell_box (w : World) (u : Value) (b : Bool) (t : TypeId) (r : Nat) (hr : r = w.heap.size) : (w.alloc (.cells #[u, .bool b] t)).cell? ⟨r, 0, none⟩ = some u ∧ (w.alloc (.cells #[u, .bool b] t)).cell? ⟨r, 1, none⟩ = some (.bool b) :=
  ⟨by rw [World.cell?_alloc_at _ _ _ _ hr]; rfl, by rw [World.cell?_alloc_at _ _ _ _ hr]; rfl⟩

/-- The first world of a method on two numbers: the two in boxes, and the slot of the result. -/
structure Box3 (w W0 : World) (u : Value) (b : Bool) (v : Value) (c : Bool) : Prop where
  sz : W0.heap.size = w.heap.size + 1 + 1 + 1
  below : Below w.heap.size w W0
  u0 : W0.cell? ⟨w.heap.size, 0, none⟩ = some u
  u1 : W0.cell? ⟨w.heap.size, 1, none⟩ = some (.bool b)
  v0 : W0.cell? ⟨w.heap.size + 1, 0, none⟩ = some v
  v1 : W0.cell? ⟨w.heap.size + 1, 1, none⟩ = some (.bool c)
  res : Res W0 (w.heap.size + 1 + 1)
theorem box3 (w : World) (u : Value) (b : Bool) (v : Value) (c : Bool) (t : TypeId) :
    Box3 w (((w.alloc (.cells #[u, .bool b] t)).alloc (.cells #[v, .bool c] t)).alloc (.cells #[.slice none 0 0, .bool false] t)) u b v c := by
  have b1 : Below (w.heap.size + 1) (w.alloc (.cells #[u, .bool b] t)) (((w.alloc (.cells #[u, .bool b] t)).alloc (.cells #[v, .bool c] t)).alloc (.cells #[.slice none 0 0, .bool false] t)) := ((Below.refl _ _).alloc (by simp) _).alloc (by simp <;> omega) _
  have b2 : Below (w.heap.size + 1 + 1) ((w.alloc (.cells #[u, .bool b] t)).alloc (.cells #[v, .bool c] t)) (((w.alloc (.cells #[u, .bool b] t)).alloc (.cells #[v, .bool c] t)).alloc (.cells #[.slice none 0 0, .bool false] t)) := (Below.refl _ _).alloc (by simp) _
  have e1 := cell_box w u b t w.heap.size rfl
  have e2 := cell_box (w.alloc (.cells #[u, .bool b] t)) v c t (w.heap.size + 1) (by simp)
  exact ⟨by simp, ((Below.refl _ _).alloc (Nat.le_refl _) _).trans (b1.mono (by omega)), (below_at b1 0 (by omega)).trans e1.1, (below_at b1 1 (by omega)).trans e1.2, (below_at b2 0 (by omega)).trans e2.1, (below_at b2 1 (by omega)).trans e2.2, Res.new _ _ _ (by simp)⟩

end Go.Proofs.YtphbfjcaehiboaaGreatDoor
