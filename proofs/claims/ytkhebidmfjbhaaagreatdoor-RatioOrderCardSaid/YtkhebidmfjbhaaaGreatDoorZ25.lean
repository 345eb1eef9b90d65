/-
  What whole.Valid, Sign, Neg and Abs return.
  The order of texts of one length is that of the numbers.
  What whole.Cmp returns.
  What the reference's trim returns. A row of ints holds the digits of a number, the lowest first.
  What the reference's text and Fit return.
  Rows of decimal digits that the call itself appends.
  What the reference's digits returns: the sign and the decimal digits of an integer's text.
  What the reference's sum returns: the digits of a sum.
-/
import Derived.Test.YtkhebidmfjbhaaaGreatDoorZ05
import Derived.Laws.AppendOwnNone
import Derived.Deep.AppendLies
import Derived.Laws.OwnMore
namespace Go.Proofs.YtkhebidmfjbhaaaGreatDoor
open Go.RowKit

theorem td48 (n : Nat) : ((td n).toList == [48]) = decide (n = 0) := by
  rw [Lib.toList_data, td_list]
  by_cases h : n = 0
  · subst h
    rw [decide_eq_true rfl]
    have h1 := (dec_head_48 0).2 rfl
    have h2 : (Lib.decDigits 0).length = 1 := by rw [Lib.decDigits_length]; exact Lib.nDigits_small (by omega)
    rw [beq_iff_eq]
    cases hd : Lib.decDigits 0 with
    | nil => rw [hd] at h2; cases h2
    | cons a l =>
      rw [hd] at h1 h2
      have : l = [] := List.length_eq_zero_iff.1 (by simpa using h2)
      rw [this]
      simp at h1
      rw [h1]
  · rw [decide_eq_false h, beq_eq_false_iff_ne]
    intro e
    apply h
    rw [← dec_head_48, e]
    rfl
/-- A minus before a text. -/
theorem tx_minus {z : Int} (h : 0 < z) : ((⟨#[45]⟩ : ByteArray) ++ tx z) = tx (-z) := by
  apply ba_ext
  rw [tx_list]
  simp only [ByteArray.data_append, Array.toList_append, tx_list]
  unfold Lib.itoa
  rw [if_neg (by omega), if_pos (by omega), show -z = -z from rfl]
  simp
  congr 1
  omega
theorem Sign_pos (z : Int) (w : World) (hz : dn z ≤ 1000) (hp : 0 < z) :
    Calls Tryz.prog 73 #[.string (tx z)] w fun e w' => e = .returned (.int .i64 (1)) ∧ w = w' := by
  have hsp := split_tx z w hz
  rw [decide_eq_false (by omega)] at hsp
  have h48 := td48 z.natAbs
  rw [decide_eq_false (by omega)] at h48
  obtain ⟨D, hD⟩ : ∃ D, D = td z.natAbs := ⟨_, rfl⟩
  obtain ⟨T, hT⟩ : ∃ T, T = tx z := ⟨_, rfl⟩
  rw [← hT, ← hD] at hsp
  rw [← hD] at h48
  rw [← hT]
  have SP := Lib.hid hsp
  clear hsp hD hT
  go_enter Tryz.func73, Tryz.ntmps73
  go_wp2_with fail
  refine SP.out.mono ?_
  rintro e w' ⟨rfl, rfl⟩
  go_wp2
  go_ret
  exact ⟨rfl, rfl⟩
theorem Sign_zero (z : Int) (w : World) (hz : dn z ≤ 1000) (hp : z = 0) :
    Calls Tryz.prog 73 #[.string (tx z)] w fun e w' => e = .returned (.int .i64 (0)) ∧ w = w' := by
  have hsp := split_tx z w hz
  rw [decide_eq_false (by omega)] at hsp
  have h48 := td48 z.natAbs
  rw [decide_eq_true (by omega)] at h48
  obtain ⟨D, hD⟩ : ∃ D, D = td z.natAbs := ⟨_, rfl⟩
  obtain ⟨T, hT⟩ : ∃ T, T = tx z := ⟨_, rfl⟩
  rw [← hT, ← hD] at hsp
  rw [← hD] at h48
  rw [← hT]
  have SP := Lib.hid hsp
  clear hsp hD hT
  go_enter Tryz.func73, Tryz.ntmps73
  go_wp2_with fail
  refine SP.out.mono ?_
  rintro e w' ⟨rfl, rfl⟩
  go_wp2
  go_ret
  exact ⟨rfl, rfl⟩
theorem Sign_neg (z : Int) (w : World) (hz : dn z ≤ 1000) (hp : z < 0) :
    Calls Tryz.prog 73 #[.string (tx z)] w fun e w' => e = .returned (.int .i64 (-1)) ∧ w = w' := by
  have hsp := split_tx z w hz
  rw [decide_eq_true (by omega)] at hsp
  have h48 := td48 z.natAbs
  rw [decide_eq_false (by omega)] at h48
  obtain ⟨D, hD⟩ : ∃ D, D = td z.natAbs := ⟨_, rfl⟩
  obtain ⟨T, hT⟩ : ∃ T, T = tx z := ⟨_, rfl⟩
  rw [← hT, ← hD] at hsp
  rw [← hD] at h48
  rw [← hT]
  have SP := Lib.hid hsp
  clear hsp hD hT
  go_enter Tryz.func73, Tryz.ntmps73
  go_wp2_with fail
  refine SP.out.mono ?_
  rintro e w' ⟨rfl, rfl⟩
  go_wp2
  go_ret
  exact ⟨rfl, rfl⟩
theorem Sign_tx (z : Int) (w : World) (hz : dn z ≤ 1000) : Calls Tryz.prog 73 #[.string (tx z)] w fun e w' => e = .returned (.int .i64 (sg z)) ∧ w = w' := by
  unfold sg
  by_cases h : z < 0
  · rw [if_pos h]; exact Sign_neg z w hz h
  · rw [if_neg h]
    by_cases h0 : z = 0
    · rw [if_pos h0]; exact Sign_zero z w hz h0
    · rw [if_neg h0]; exact Sign_pos z w hz (by omega)
theorem Valid_tx (z : Int) (w : World) (hz : dn z ≤ 1000) : Calls Tryz.prog 157 #[.string (tx z)] w fun e w' => e = .returned (.bool true) ∧ w = w' := by
  have hsp := split_tx z w hz
  obtain ⟨b, hb⟩ : ∃ b, b = decide (z < 0) := ⟨_, rfl⟩
  obtain ⟨D, hD⟩ : ∃ D, D = td z.natAbs := ⟨_, rfl⟩
  obtain ⟨T, hT⟩ : ∃ T, T = tx z := ⟨_, rfl⟩
  rw [← hT, ← hD, ← hb] at hsp
  rw [← hT]
  have SP := Lib.hid hsp
  clear hsp hD hT hb
  go_enter Tryz.func157, Tryz.ntmps157
  go_wp2_with fail
  refine SP.out.mono ?_
  rintro e w' ⟨rfl, rfl⟩
  go_wp2
  go_ret
  exact ⟨rfl, rfl⟩
theorem Valid_bad (s : ByteArray) (w : World) (hm : s.size ≤ 9223372036854775807) (h : isT s.data.toList = false) :
    Calls Tryz.prog 157 #[.string s] w fun e w' => e = .returned (.bool false) ∧ w = w' := by
  have SP := Lib.hid (split_no s w hm h)
  clear h
  go_enter Tryz.func157, Tryz.ntmps157
  go_wp2_with fail
  refine SP.out.mono ?_
  rintro e w' ⟨rfl, rfl⟩
  go_wp2
  go_ret
  exact ⟨rfl, rfl⟩
end Go.Proofs.YtkhebidmfjbhaaaGreatDoor
namespace Go.Proofs.YtkhebidmfjbhaaaGreatDoor
open Go.RowKit
open Go.Lib

end Go.Proofs.YtkhebidmfjbhaaaGreatDoor
namespace Go.Proofs.YtkhebidmfjbhaaaGreatDoor
open Go.RowKit

end Go.Proofs.YtkhebidmfjbhaaaGreatDoor
namespace Go.Proofs.YtkhebidmfjbhaaaGreatDoor
open Go.RowKit

def RowD (w : World) (B : Nat) (a : Option Addr) (n : Nat) (z : Int) : Prop :=
  0 < n → ∃ g o, a = some ⟨g, o, none⟩ ∧ g < B ∧ ∀ j, j < n → w.cell? ⟨g, o + j, none⟩ = some (.int .i64 (Ten.lz z j))
set_option maxHeartbeats 400000 in
theorem rtrim_any (a : Option Addr) (n c : Nat) (z : Int) (w : World) (hz : 0 ≤ z) (hz' : z < Ten.bp n) (hc : n ≤ c) (hm : n ≤ 1000000) (hr : RowD w w.heap.size a n z) :
    Calls Tryz.prog 178 #[.slice a n c] w fun e w' => e = .returned (.slice a (Ten.nl z) c) ∧ w = w' := by
  have HZ := Lib.hid hz'
  have HR := Lib.hid hr
  clear hr hz'
  go_enter Tryz.func178, Tryz.ntmps178
  go_wp2
  go_loop [0] (fun v => ∃ k : Nat, k ≤ n ∧ z < Ten.bp k ∧ v = .slice a k c) (fun v => match v with | .slice _ k _ => k | _ => 0)
  case atStart => exact ⟨n, by omega, HZ.out, rfl⟩
  case round =>
    obtain ⟨k, hk, hzk, rfl⟩ := hrel
    have HK := Lib.hid hzk
    clear hzk
    rcases Nat.eq_zero_or_pos k with hk0 | hk0
    · subst hk0
      have hz0 : z = 0 := by have := HK.out; rw [Ten.bp_zero] at this; omega
      have hn0 : Ten.nl z = 0 := by rw [hz0, Ten.nl_zero]
      have HN := Lib.hid hn0
      clear hn0 hz0
      go_wp2
      go_ret
      exact ⟨by rw [HN.out]; rfl, rfl⟩
    · obtain ⟨g, o, rfl, hg, hcl⟩ := HR.out (by omega)
      have hcell := hcl (k - 1) (by omega)
      have hb := Ten.lz_bd z (k - 1)
      clear hcl
      go_wp2
      · have e : Ten.lz z (k - 1) = 0 := by simpa using ‹(Ten.lz z (k - 1) == 0) = true›
        go_round
        case rel => exact ⟨k - 1, by omega, Ten.lt_of_top hz (by rw [show k - 1 + 1 = k by omega]; exact HK.out) e, by first | rfl | (congr 1; omega)⟩
        case measure => simp; omega
      · have e : Ten.lz z (k - 1) ≠ 0 := by simpa using ‹(Ten.lz z (k - 1) == 0) = false›
        have hn : k = Ten.nl z := by
          have := Ten.nl_of_top (k := k - 1) hz (by rw [show k - 1 + 1 = k by omega]; exact HK.out) e
          omega
        go_ret
        exact ⟨by rw [← hn]; rfl, rfl⟩
end Go.Proofs.YtkhebidmfjbhaaaGreatDoor
namespace Go.Proofs.YtkhebidmfjbhaaaGreatDoor
open Go.RowKit

theorem undInt : Tryz.prog.underlying 25 = some .string := by kernel_rfl

theorem und64i : Tryz.prog.underlying 133 = some (.slice 3) := by kernel_rfl
theorem infoI64 : (Tryz.prog.info? 3).map (fun i => (i.zero, i.size, i.bytes)) = some (some (.int .i64 0), 1, 8) := by kernel_rfl
/-- The bytes of a number's text, the first k digits of them. -/
def row8 (b : Bool) (z : Int) (m k : Nat) : List Value := (if b then [Value.int .u8 45] else []) ++ (List.range k).map (fun j => Value.int .u8 (db z m j))
def off8 (b : Bool) : Nat := if b then 1 else 0
theorem row8_len (b : Bool) (z : Int) (m k : Nat) : (row8 b z m k).length = off8 b + k := by unfold row8 off8; cases b <;> simp <;> omega
theorem row8_succ (b : Bool) (z : Int) (m k : Nat) : row8 b z m (k + 1) = row8 b z m k ++ [.int .u8 (db z m k)] := by
  unfold row8
  rw [List.range_succ, List.map_append, ← List.append_assoc]
  rfl
theorem own8_ge {w : World} {base : Nat} {e : TypeId} {size n : Nat} {v : Value} {xs : List Value} (h : w.ownsRow base e size v n xs) (k : Nat) (hk : v.ownBlock = some k) : base ≤ k := by
  rcases h.2 with ⟨rfl, _⟩ | ⟨g, cap, cur, rfl, hg, _⟩
  · cases hk
  · simp [Value.ownBlock] at hk
    omega
/-- The bytes that are written are the text. -/
theorem row8_str (b : Bool) {z : Int} (hz : 0 < z) : strOfNums ((if b then [45] else []) ++ (List.range (dn z)).map (fun j => db z (dn z) j)) = tx (if b then -z else z) := by
  have hza : (z.natAbs : Int) = z := by omega
  cases b with
  | false =>
    have h := str_digits z
    rw [hza] at h
    simp only [Bool.false_eq_true, if_false, List.nil_append]
    rw [h, tx_pos (by omega)]
  | true =>
    have h := str_signed (z := -z) (by omega)
    rw [Int.natAbs_neg, hza, dn_neg] at h
    simp only [if_true]
    exact h
def nums8 (b : Bool) (z : Int) (m : Nat) : List Int := (if b then [45] else []) ++ (List.range m).map (fun j => db z m j)
theorem row8_map (b : Bool) (z : Int) (m : Nat) : row8 b z m m = (nums8 b z m).map (Value.int .u8) := by
  unfold row8 nums8
  cases b <;> simp
theorem nums8_len (b : Bool) (z : Int) (m : Nat) : (nums8 b z m).length = off8 b + m := by unfold nums8 off8; cases b <;> simp <;> omega
theorem conv8 (b : Bool) (z : Int) (m g c : Nat) (w : World) (h : ∀ j, j < off8 b + m → w.cell? ⟨g, j, none⟩ = (row8 b z m m)[j]?) :
    (convert 127 25 (.slice (some ⟨g, 0, none⟩) (off8 b + m) c)).run Tryz.prog w = .ok (.string (strOfNums (nums8 b z m))) w := by
  rw [run_convert_bytes_arg w 127 5 undU8s undU8 g 0 (off8 b + m) c (nums8 b z m) (nums8_len b z m) (fun j hj => by
    rw [Nat.zero_add, h j hj, row8_map, List.getElem?_map]
    simp [List.getD, show j < (nums8 b z m).length by rw [nums8_len]; exact hj]) _ undInt]
set_option maxHeartbeats 2000000 in
set_option maxRecDepth 100000 in
theorem rtext_pos (b : Bool) (a : Option Addr) (n c : Nat) (z : Int) (w : World) (hz : 0 < z) (hz' : z < Ten.bp n) (hc : n ≤ c) (hm : n ≤ 1000000) (hr : RowD w w.heap.size a n z) :
    Calls Tryz.prog 146 #[.bool b, .slice a n c] w (GivesY (tx (if b then -z else z)) w) := by
  obtain ⟨i8, hi, hz0, hz1, hz2⟩ := info_parts infoU8
  have hst := row8_str b hz
  have TR := Lib.hid (rtrim_any a n c z w (by omega) hz' hc hm hr)
  have hnl := Ten.nl_pos hz
  have hnn : Ten.nl z ≤ n := Ten.nl_le hz'
  rw [dn_ten hz] at hst
  obtain ⟨m, hmm⟩ : ∃ m, m = Ten.nl z := ⟨_, rfl⟩
  rw [← hmm] at hst hnl hnn TR
  obtain ⟨g, o, rfl, hg, hcl⟩ := hr (by omega)
  have HC := Lib.hid hcl
  have HST := Lib.hid hst
  obtain ⟨T, hT⟩ : ∃ T, T = tx (if b = true then -z else z) := ⟨_, rfl⟩
  rw [← hT] at HST ⊢
  have hne : (((m : Nat) : Int) == 0) = false := by rw [beq_eq_false_iff_ne]; omega
  clear hr hcl hst hT hz' hz hmm
  go_enter Tryz.func146, Tryz.ntmps146
  go_wp2_with fail
  refine TR.out.mono ?_
  rintro e w' ⟨rfl, rfl⟩
  cases b with
  | false =>
    have hown0 : w.ownsRow w.heap.size 5 1 (.slice none 0 0) (off8 false + 0) (row8 false z m 0) := World.ownsRow_nil _ _ _ _
    go_wp2_with fail
    go_loopw [5, 6] (fun v i wr => ∃ k : Nat, k ≤ m ∧ i = .int .i64 ((m : Int) - 1 - k) ∧ wr.ownsRow w.heap.size 5 1 v (off8 false + k) (row8 false z m k) ∧ Below w.heap.size w wr) (fun _ i _ => (intOf i + 1).toNat)
    case atStart => exact ⟨0, by omega, by go_num, hown0, Below.refl _ _⟩
    case round =>
      obtain ⟨k, hk, rfl, hown, hb⟩ := hrel
      have hlen := row8_len false z m k
      have hob : off8 false ≤ 1 := by unfold off8; decide
      have hws := hb.size
      by_cases hlt : k < m
      · have hcell := (below_at hb (o + (m - 1 - k)) hg).trans (HC.out (m - 1 - k) (by omega))
        have hbd := Ten.lz_bd z (m - 1 - k)
        have hdb : 48 + Ten.lz z (m - 1 - k) = db z m k := rfl
        have hsucc := Lib.hid (row8_succ false z m k)
        have HDB := Lib.hid hdb
        have hip : (m : Int) - 1 - k = ((m - 1 - k : Nat) : Int) := by omega
        rw [hip]
        obtain ⟨l, hl⟩ : ∃ l, l = Ten.lz z (m - 1 - k) := ⟨_, rfl⟩
        rw [← hl] at hcell hbd HDB
        obtain ⟨p, hp⟩ : ∃ p, p = m - 1 - k := ⟨_, rfl⟩
        rw [← hp] at hcell ⊢
        have HP := Lib.hid hp
        have hpm : p < m := by omega
        clear hl hdb hip hp
        go_wp2_with (at_builtin; refine wpList_append_own _ rfl _ _ 127 rfl w.heap.size 5 i8 (.int .u8 0) 1 1 undU8s hi hz0 hz1 hz2 rfl (by decide) _ _ _ rfl (hown.alloc _) ⟨wr.heap.size, 0, none⟩ 1 1 [.int .u8 (48 + l)] rfl rfl ?c1 ?c2 ?c3 ?c4 ?c5 ?_)
        case c1 =>
          intro k u hk
          match k, hk with
          | 0, hk => simp at hk; subst hk; simp [Addr.add]
        case c2 => intro u hu; simp at hu; subst hu; rfl
        case c3 => unfold maxLen; omega
        case c4 => omega
        case c5 => simp; omega
        · intro v' w1 hown' hgrow _
          have R1 : w1.ownsRow w.heap.size 5 1 v' (off8 false + (k + 1)) (row8 false z m (k + 1)) := by
            rw [hsucc.out, ← HDB.out]
            exact hown'
          have R2 : Below w.heap.size w w1 := (hb.alloc hb.size _).grown hgrow (by simp; omega) (own8_ge hown)
          clear hown' hgrow hown hb
          go_wp2
          go_roundw
          case rel => exact ⟨k + 1, by omega, by have := HP.out; go_num, R1, R2⟩
          case measure => (have := HP.out; simp [intOf] <;> omega)
      · have hkm : k = m := by omega
        rw [hkm] at hown
        obtain ⟨g', cap, hv, _, _⟩ := hown.form (by omega)
        subst hv
        have hcv := conv8 false z m g' cap wr (fun j hj => hown.cellAt j (by omega))
        rw [show strOfNums (nums8 false z m) = T from HST.out] at hcv
        have HB := Lib.hid hb
        have hlt' : ¬ (0 : Int) ≤ (m : Int) - 1 - k := by omega
        clear hown hlen hob hws hb hkm hlt
        go_wp2
        go_ret
        exact ⟨rfl, HB.out⟩
  | true =>
    have hown1 : w.ownsRow w.heap.size 5 1 (.slice none 0 0) 0 [] := World.ownsRow_nil _ _ _ _
    go_wp2_with (at_builtin; refine wpList_append_own _ rfl _ _ 127 rfl w.heap.size 5 i8 (.int .u8 0) 1 1 undU8s hi hz0 hz1 hz2 rfl (by decide) _ _ _ rfl (hown1.alloc _) ⟨w.heap.size, 0, none⟩ 1 1 [.int .u8 45] rfl rfl ?c1 ?c2 ?c3 ?c4 ?c5 ?_)
    case c1 =>
      intro k u hk
      match k, hk with
      | 0, hk => simp at hk; subst hk; simp [Addr.add]
    case c2 => intro u hu; simp at hu; subst hu; rfl
    case c3 => unfold maxLen; omega
    case c4 => omega
    case c5 => simp
    · intro v0 w0 hown' hgrow _
      have hown0 : w0.ownsRow w.heap.size 5 1 v0 (off8 true + 0) (row8 true z m 0) := hown'
      have hb0 : Below w.heap.size w w0 := ((Below.refl _ _).alloc (Nat.le_refl _) _).grown hgrow (by simp) (own8_ge hown1)
      clear hown' hgrow hown1
      go_wp2_with fail
      go_loopw [5, 6] (fun v i wr => ∃ k : Nat, k ≤ m ∧ i = .int .i64 ((m : Int) - 1 - k) ∧ wr.ownsRow w.heap.size 5 1 v (off8 true + k) (row8 true z m k) ∧ Below w.heap.size w wr) (fun _ i _ => (intOf i + 1).toNat)
      case atStart => exact ⟨0, by omega, by go_num, hown0, hb0⟩
      case round =>
        obtain ⟨k, hk, rfl, hown, hb⟩ := hrel
        have hlen := row8_len true z m k
        have hob : off8 true ≤ 1 := by unfold off8; decide
        have hws := hb.size
        by_cases hlt : k < m
        · have hcell := (below_at hb (o + (m - 1 - k)) hg).trans (HC.out (m - 1 - k) (by omega))
          have hbd := Ten.lz_bd z (m - 1 - k)
          have hdb : 48 + Ten.lz z (m - 1 - k) = db z m k := rfl
          have hsucc := Lib.hid (row8_succ true z m k)
          have HDB := Lib.hid hdb
          have hip : (m : Int) - 1 - k = ((m - 1 - k : Nat) : Int) := by omega
          rw [hip]
          obtain ⟨l, hl⟩ : ∃ l, l = Ten.lz z (m - 1 - k) := ⟨_, rfl⟩
          rw [← hl] at hcell hbd HDB
          obtain ⟨p, hp⟩ : ∃ p, p = m - 1 - k := ⟨_, rfl⟩
          rw [← hp] at hcell ⊢
          have HP := Lib.hid hp
          have hpm : p < m := by omega
          clear hl hdb hip hp
          go_wp2_with (at_builtin; refine wpList_append_own _ rfl _ _ 127 rfl w.heap.size 5 i8 (.int .u8 0) 1 1 undU8s hi hz0 hz1 hz2 rfl (by decide) _ _ _ rfl (hown.alloc _) ⟨wr.heap.size, 0, none⟩ 1 1 [.int .u8 (48 + l)] rfl rfl ?c1 ?c2 ?c3 ?c4 ?c5 ?_)
          case c1 =>
            intro k u hk
            match k, hk with
            | 0, hk => simp at hk; subst hk; simp [Addr.add]
          case c2 => intro u hu; simp at hu; subst hu; rfl
          case c3 => unfold maxLen; omega
          case c4 => omega
          case c5 => simp; omega
          · intro v' w1 hown' hgrow _
            have R1 : w1.ownsRow w.heap.size 5 1 v' (off8 true + (k + 1)) (row8 true z m (k + 1)) := by
              rw [hsucc.out, ← HDB.out]
              exact hown'
            have R2 : Below w.heap.size w w1 := (hb.alloc hb.size _).grown hgrow (by simp; omega) (own8_ge hown)
            clear hown' hgrow hown hb
            go_wp2
            go_roundw
            case rel => exact ⟨k + 1, by omega, by have := HP.out; go_num, R1, R2⟩
            case measure => (have := HP.out; simp [intOf] <;> omega)
        · have hkm : k = m := by omega
          rw [hkm] at hown
          obtain ⟨g', cap, hv, _, _⟩ := hown.form (by omega)
          subst hv
          have hcv := conv8 true z m g' cap wr (fun j hj => hown.cellAt j (by omega))
          rw [show strOfNums (nums8 true z m) = T from HST.out] at hcv
          have HB := Lib.hid hb
          have hlt' : ¬ (0 : Int) ≤ (m : Int) - 1 - k := by omega
          clear hown hlen hob hws hb hkm hlt
          go_wp2
          go_ret
          exact ⟨rfl, HB.out⟩
theorem rtext_zero (b : Bool) (a : Option Addr) (n c : Nat) (w : World) (hc : n ≤ c) (hm : n ≤ 1000000) (hr : RowD w w.heap.size a n 0) :
    Calls Tryz.prog 146 #[.bool b, .slice a n c] w (GivesY (tx 0) w) := by
  have hT : tx 0 = ⟨#[48]⟩ := by unfold tx; simp [Lib.itoa, Lib.decDigits]
  have htr := rtrim_any a n c 0 w (by omega) (Ten.bp_pos n) hc hm hr
  rw [Ten.nl_zero] at htr
  have TR := Lib.hid htr
  rw [hT]
  clear htr hT hr
  go_enter Tryz.func146, Tryz.ntmps146
  go_wp2_with fail
  refine TR.out.mono ?_
  rintro e w' ⟨rfl, rfl⟩
  go_wp2
  go_ret
  exact ⟨rfl, Below.refl _ _⟩
theorem rtext_any (b : Bool) (a : Option Addr) (n c : Nat) (z : Int) (w : World) (hz : 0 ≤ z) (hz' : z < Ten.bp n) (hc : n ≤ c) (hm : n ≤ 1000000) (hr : RowD w w.heap.size a n z) :
    Calls Tryz.prog 146 #[.bool b, .slice a n c] w (GivesY (tx (if b then -z else z)) w) := by
  rcases Int.lt_or_le 0 z with h | h
  · exact rtext_pos b a n c z w h hz' hc hm hr
  · obtain rfl : z = 0 := by omega
    rw [show (if b = true then -(0 : Int) else 0) = 0 by split <;> rfl]
    exact rtext_zero b a n c w hc hm hr
end Go.Proofs.YtkhebidmfjbhaaaGreatDoor
namespace Go.Proofs.YtkhebidmfjbhaaaGreatDoor
open Go.RowKit

/-- The number with these decimal digits, the lowest first. -/
def dv : List Nat → Int
  | [] => 0
  | d :: l => d + 10 * dv l
theorem dv_bd : ∀ l : List Nat, (∀ d, d ∈ l → d < 10) → 0 ≤ dv l ∧ dv l < Ten.bp l.length
  | [], _ => by rw [dv, List.length_nil, Ten.bp_zero]; omega
  | d :: l, h => by
    have h1 := dv_bd l (fun x hx => h x (List.mem_cons_of_mem _ hx))
    have h2 := h d List.mem_cons_self
    rw [dv, List.length_cons, Ten.bp_succ]
    omega
theorem dv_lz : ∀ (l : List Nat), (∀ d, d ∈ l → d < 10) → ∀ (j : Nat) (hj : j < l.length), Ten.lz (dv l) j = l[j]
  | d :: l, h, 0, _ => by
    have h2 := h d List.mem_cons_self
    unfold Ten.lz
    rw [dv, Ten.div_bp_zero]
    show _ = (d : Int)
    omega
  | d :: l, h, j + 1, hj => by
    have h1 := dv_lz l (fun x hx => h x (List.mem_cons_of_mem _ hx)) j (by simpa using hj)
    have h2 := h d List.mem_cons_self
    have e : Ten.lz (dv (d :: l)) (j + 1) = Ten.lz (dv (d :: l) / Ten.bp 1) j := by rw [Ten.lz_shift, Nat.add_comm]
    rw [e, dv, Ten.bp_one, show ((d : Int) + 10 * dv l) / 10 = dv l by omega, h1]
    rfl
def vals (l : List Nat) : List Value := l.map fun q : Nat => Value.int .i64 (q : Int)
theorem vals_snoc (l : List Nat) (j : Nat) : vals (l ++ [j]) = vals l ++ [.int .i64 (j : Int)] := by simp [vals]
theorem rowD_of_own {w : World} {B : Nat} {v : Value} {l : List Nat} (h : w.ownsRow B 3 1 v l.length (vals l)) (hd : ∀ d, d ∈ l → d < 10) : ∃ a c, v = .slice a l.length c ∧ l.length ≤ c ∧ RowD w w.heap.size a l.length (dv l) := by
  rcases Nat.eq_zero_or_pos l.length with e | e
  · rcases h.2 with ⟨hv, _⟩ | ⟨g, cap, cur, hv, _, _, hc, _⟩
    · exact ⟨none, 0, by rw [hv, e], by omega, fun k => absurd k (by omega)⟩
    · exact ⟨some ⟨g, 0, none⟩, cap, by rw [hv], hc, fun k => absurd k (by omega)⟩
  · obtain ⟨g, cap, hv, _, _⟩ := h.form e
    rcases h.2 with ⟨hv', _⟩ | ⟨g', cap', cur, hv', _, _, hc, _⟩
    · rw [hv] at hv'; cases hv'
    · rw [hv] at hv'
      injection hv' with e1 e2 e3
      subst e3
      subst hv
      refine ⟨_, cap, rfl, hc, fun _ => ⟨g, 0, rfl, ?_, fun j hj => ?_⟩⟩
      · exact World.block_lt_of_cell? w ⟨g, 0, none⟩ (u := .int .i64 (l[0] : Nat)) (by rw [h.cellAt 0 (by omega)]; simp [vals, e])
      · rw [Nat.zero_add, h.cellAt j (by omega), dv_lz l hd j hj]
        simp [vals, hj]
end Go.Proofs.YtkhebidmfjbhaaaGreatDoor
namespace Go.Proofs.YtkhebidmfjbhaaaGreatDoor
open Go.RowKit

theorem tx_dig (z : Int) (t : Nat) (h : t < (tx z).size) (hp : z < 0 → 1 ≤ t) : (((tx z)[t]'h).toNat : Int) = 48 + Ten.lz z.natAbs ((tx z).size - 1 - t) := by
  have hs := tx_size z
  by_cases hz : z < 0
  · have h1 := hp hz
    obtain ⟨u, rfl⟩ : ∃ u, t = u + 1 := ⟨t - 1, by omega⟩
    rw [if_pos hz] at hs
    have hd : (td z.natAbs).size = dn z := by rw [td_size]; rfl
    have hu : u < (td z.natAbs).size := by omega
    have e : (tx z)[u + 1]'h = (td z.natAbs)[u]'hu := by
      show (Lib.itoa z).toArray[u + 1]'_ = (Lib.decDigits z.natAbs).toArray[u]'_
      simp [Lib.itoa, if_pos hz]
      rfl
    rw [e, td_lz, hd]
    congr 2
    omega
  · rw [if_neg hz] at hs
    have hd : (td z.natAbs).size = dn z := by rw [td_size]; rfl
    have e : (tx z)[t]'h = (td z.natAbs)[t]'(by omega) := by
      congr 1
      exact tx_pos (by omega)
    rw [e, td_lz, hd]
    congr 2
    omega
theorem tx_first (z : Int) (hz : z < 0) (h : 0 < (tx z).size) : (((tx z)[0]'h).toNat : Int) = 45 := by
  have e : (tx z)[0]'h = 45 := by
    show (Lib.itoa z).toArray[0]'_ = 45
    simp [Lib.itoa, if_pos hz]
  rw [e]
  rfl
theorem tx_first_not (z : Int) (hz : ¬ z < 0) (h : 0 < (tx z).size) : 48 ≤ (((tx z)[0]'h).toNat : Int) := by
  rw [tx_dig z 0 h (fun e => absurd e hz)]
  have := (Ten.lz_bd z.natAbs ((tx z).size - 1 - 0)).1
  omega
/-- The lowest j digits of u. -/
def dl (u : Int) (j : Nat) : List Nat := (List.range j).map fun t => (Ten.lz u t).toNat
theorem dl_len (u : Int) (j : Nat) : (dl u j).length = j := by unfold dl; simp
theorem dl_succ (u : Int) (j : Nat) : dl u (j + 1) = dl u j ++ [(Ten.lz u j).toNat] := by unfold dl; rw [List.range_succ, List.map_append]; rfl
theorem dl_lt (u : Int) (j : Nat) : ∀ d, d ∈ dl u j → d < 10 := by
  intro d hd
  unfold dl at hd
  obtain ⟨t, _, rfl⟩ := List.mem_map.1 hd
  have := Ten.lz_bd u t
  omega
theorem dv_dl {u : Int} {j : Nat} (h0 : 0 ≤ u) (h : u < Ten.bp j) : dv (dl u j) = u := by
  obtain ⟨a, b⟩ := dv_bd (dl u j) (dl_lt u j)
  rw [dl_len] at b
  refine Ten.lz_ext a b h0 h (fun k hk => ?_)
  rw [dv_lz _ (dl_lt u j) k (by rw [dl_len]; exact hk)]
  unfold dl
  have := Ten.lz_bd u k
  simp
  omega
/-- The call hands back the sign and the digits of z. -/
def GivesDg (z : Int) (w : World) (e : Ending) (w' : World) : Prop := ∃ a c, e = .returned (.tuple #[.bool (decide (z < 0)), .slice a (Ten.nl z.natAbs) c]) ∧ Ten.nl z.natAbs ≤ c ∧ RowD w' w'.heap.size a (Ten.nl z.natAbs) z.natAbs ∧ Below w.heap.size w w' ∧ ∃ g o, a = some ⟨g, o, none⟩ ∧ g < w'.heap.size
set_option maxHeartbeats 2000000 in
set_option maxRecDepth 100000 in
theorem rdigits_any (z : Int) (w : World) (hz : dn z ≤ 100000) : Calls Tryz.prog 156 #[.string (tx z)] w (GivesDg z w) := by
  obtain ⟨i0, hi, hz0, hz1, hz2⟩ := info_parts infoI64
  have hsz := tx_size z
  have hdp := dn_pos z
  have hlt := dn_lt (x := (z.natAbs : Int)) (by omega)
  rw [dn_abs] at hlt
  have hdig := tx_dig z
  have hfst := tx_first z
  have hfn := tx_first_not z
  obtain ⟨U, hU⟩ : ∃ U : Int, U = z.natAbs := ⟨_, rfl⟩
  have hU0 : 0 ≤ U := by omega
  rw [← hU] at hlt hdig
  obtain ⟨m, hm⟩ : ∃ m, m = dn z := ⟨_, rfl⟩
  rw [← hm] at hsz hdp hlt hz
  obtain ⟨T, hT⟩ : ∃ T, T = tx z := ⟨_, rfl⟩
  rw [← hT] at hsz hdig hfst hfn ⊢
  have HD := Lib.hid hdig
  have HU := Lib.hid hU
  have hT0 : 0 < T.size := by omega
  have hb0 : (((T[0]'hT0).toNat : Int) == 45) = decide (z < 0) := by
    by_cases h : z < 0
    · rw [decide_eq_true h, beq_iff_eq]; exact hfst h hT0
    · have := hfn h hT0
      rw [decide_eq_false h, beq_eq_false_iff_ne]; omega
  have HF := Lib.hid hfst
  have hown0 : w.ownsRow w.heap.size 3 1 (.slice none 0 0) 0 (vals (dl U 0)) := World.ownsRow_nil _ _ _ _
  obtain ⟨mn, hmn⟩ : ∃ b, b = decide (z < 0) := ⟨_, rfl⟩
  have HS : Hid (T.size = m + if z < 0 then 1 else 0) := Lib.hid hsz
  have hTm : T.size ≤ 100001 := by split at hsz <;> omega
  have HMM := Lib.hid hm
  unfold GivesDg
  rw [← hU, ← hmn]
  rw [← hmn] at hb0
  have HMN := Lib.hid hmn
  clear hdig hfst hfn hsz hT hU hm hmn
  go_enter Tryz.func156, Tryz.ntmps156
  go_wp2_with fail
  go_loopw [5, 6] (fun v i wr => ∃ r : Nat, r ≤ T.size ∧ i = .int .i64 ((T.size : Int) - 1 - r) ∧ wr.ownsRow w.heap.size 3 1 v (min r m) (vals (dl U (min r m))) ∧ Below w.heap.size w wr) (fun _ i _ => (intOf i + 1).toNat)
  case atStart => exact ⟨0, by omega, by go_num, by rw [Nat.zero_min]; exact hown0, Below.refl _ _⟩
  case round =>
    clear hown0
    obtain ⟨r, hr, rfl, hown, hb⟩ := hrel
    have hws := hb.size
    have hlen : (vals (dl U (min r m))).length = min r m := by unfold vals; rw [List.length_map, dl_len]
    by_cases hlt' : r < T.size
    · obtain ⟨t, ht⟩ : ∃ t : Nat, (t : Int) = (T.size : Int) - 1 - r := ⟨T.size - 1 - r, by omega⟩
      rw [← ht]
      have HT := Lib.hid ht
      have htl : t < T.size := by omega
      by_cases hrm : r < m
      · have hbyte := HD.out t htl (fun hneg => by have := HS.out; rw [if_pos hneg] at this; omega)
        have hbd := Ten.lz_bd U (T.size - 1 - t)
        have hne : (((T[t]'htl).toNat : Int) != 45) = true := by rw [bne_iff_ne]; omega
        have hrr : T.size - 1 - t = r := by omega
        rw [hrr] at hbyte hbd
        have hsub : ((T[t]'htl).toNat : Int) - 48 = (((Ten.lz U r).toNat : Nat) : Int) := by omega
        have hb1 : (0 : Int) ≤ ((T[t]'htl).toNat : Int) - 48 ∧ ((T[t]'htl).toNat : Int) - 48 < 10 := by omega
        obtain ⟨hb2, hb3⟩ := hb1
        have HSB := Lib.hid hsub
        have HSC := Lib.hid (dl_succ U r)
        have hmin : min r m = r := by omega
        have hmin2 : min (r + 1) m = r + 1 := by omega
        rw [hmin] at hown hlen
        have HM2 := Lib.hid hmin2
        clear hbyte hbd hrr hsub hmin hmin2 ht
        go_wp2_with (at_builtin; refine wpList_append_own _ rfl _ _ 133 rfl w.heap.size 3 i0 (.int .i64 0) 1 8 und64i hi hz0 hz1 hz2 rfl (by decide) _ _ _ rfl (hown.alloc _) ⟨wr.heap.size, 0, none⟩ 1 1 [.int .i64 (((T[t]'htl).toNat : Int) - 48)] rfl rfl ?c1 ?c2 ?c3 ?c4 ?c5 ?_)
        case c1 =>
          intro k u hk
          match k, hk with
          | 0, hk => simp at hk; subst hk; simp [Addr.add]
        case c2 => intro u hu; simp at hu; subst hu; rfl
        case c3 => unfold maxLen; omega
        case c4 => omega
        case c5 => simp; omega
        · intro v' w1 hown' hgrow _
          have R1 : w1.ownsRow w.heap.size 3 1 v' (min (r + 1) m) (vals (dl U (min (r + 1) m))) := by
            rw [HM2.out, HSC.out, vals_snoc, ← HSB.out]
            exact hown'
          have R2 : Below w.heap.size w w1 := (hb.alloc hb.size _).grown hgrow (by simp; omega) (own8_ge hown)
          clear hown' hgrow hown hb
          go_wp2
          go_roundw
          case rel => exact ⟨r + 1, by omega, by have := HT.out; go_num, R1, R2⟩
          case measure => (have := HT.out; simp [intOf] <;> omega)
      · have hneg : z < 0 := by
          have := HS.out
          split at this
          · assumption
          · omega
        have ht0 : t = 0 := by have := HS.out; rw [if_pos hneg] at this; omega
        subst ht0
        have hbyte := HF.out hneg htl
        have hne : (((T[0]'htl).toNat : Int) != 45) = false := by rw [hbyte]; rfl
        have hmin : min r m = m := by omega
        have hmin2 : min (r + 1) m = m := by omega
        rw [hmin] at hown
        have HM2 := Lib.hid hmin2
        clear hbyte hmin hmin2 ht
        go_wp2
        go_roundw
        case rel => exact ⟨r + 1, by omega, by have := HT.out; go_num, by rw [HM2.out]; exact hown, hb⟩
        case measure => (have := HT.out; simp [intOf] <;> omega)
    · have hrs : r = T.size := by omega
      have hmin : min r m = m := by have := HS.out; split at this <;> omega
      rw [hmin] at hown
      have hlb := dl_len U m
      have hown' : wr.ownsRow w.heap.size 3 1 u5 (dl U m).length (vals (dl U m)) := by rw [hlb]; exact hown
      obtain ⟨a, c, hv, hc, hrow⟩ := rowD_of_own hown' (dl_lt U m)
      rw [hlb, dv_dl hU0 hlt] at hrow
      rw [hlb] at hv hc
      subst hv
      have hnl : Ten.nl U ≤ c := Nat.le_trans (Ten.nl_le hlt) hc
      have TR := Lib.hid (rtrim_any a m c U wr hU0 hlt hc (by omega) hrow)
      have hsome : ∃ g o, a = some ⟨g, o, none⟩ ∧ g < wr.heap.size := by
        obtain ⟨g, o, e, hg, _⟩ := hrow (by omega)
        exact ⟨g, o, e, hg⟩
      have HSM := Lib.hid hsome
      have HROW : Hid (RowD wr wr.heap.size a (Ten.nl U) U) := Lib.hid (fun hn => by
        have hm' := Ten.nl_le hlt
        obtain ⟨g, o, e, hg, hcl⟩ := hrow (by omega)
        exact ⟨g, o, e, hg, fun j hj => hcl j (by omega)⟩)
      have HB := Lib.hid hb
      have hi1 : ¬ (0 : Int) ≤ (T.size : Int) - 1 - r := by omega
      clear hown hown' hrow hb hlb hmin hrs hsome
      go_wp2_with fail
      refine TR.out.mono ?_
      rintro e w' ⟨rfl, rfl⟩
      go_wp2
      go_ret2
      exact ⟨a, c, rfl, hnl, HROW.out, HB.out, HSM.out⟩
end Go.Proofs.YtkhebidmfjbhaaaGreatDoor
namespace Go.Proofs.YtkhebidmfjbhaaaGreatDoor
open Go.RowKit

/-- The call hands back at most L digits of x. -/
def GivesRow (x : Int) (L : Nat) (w : World) (e : Ending) (w' : World) : Prop := ∃ a n c, e = .returned (.slice a n c) ∧ n ≤ c ∧ n ≤ L ∧ 0 ≤ x ∧ x < Ten.bp n ∧ RowD w' w'.heap.size a n x ∧ Below w.heap.size w w'
theorem row_own {w : World} {B : Nat} {v : Value} {x : Int} {n : Nat} (h : w.ownsRow B 3 1 v n (vals (dl x n))) (h0 : 0 ≤ x) (h1 : x < Ten.bp n) : ∃ a c, v = .slice a n c ∧ n ≤ c ∧ RowD w w.heap.size a n x := by
  have h' : w.ownsRow B 3 1 v (dl x n).length (vals (dl x n)) := by rw [dl_len]; exact h
  obtain ⟨a, c, hv, hc, hr⟩ := rowD_of_own h' (dl_lt x n)
  rw [dl_len] at hv hc
  rw [dl_len, dv_dl h0 h1] at hr
  exact ⟨a, c, hv, hc, hr⟩
theorem lz_past {x : Int} {n i : Nat} (h0 : 0 ≤ x) (h : x < Ten.bp n) (hi : ¬ i < n) : Ten.lz x i = 0 := Ten.lz_high h0 h (by omega)
set_option maxHeartbeats 4000000 in
set_option maxRecDepth 100000 in
theorem rsum_any (a b : Option Addr) (n c k d : Nat) (x y : Int) (w : World) (hx0 : 0 ≤ x) (hx : x < Ten.bp n) (hy0 : 0 ≤ y) (hy : y < Ten.bp k) (hn : n ≤ 100000) (hk : k ≤ 100000)
    (ha : RowD w w.heap.size a n x) (hb : RowD w w.heap.size b k y) :
    Calls Tryz.prog 163 #[.slice a n c, .slice b k d] w (GivesRow (x + y) (max n k + 1) w) := by
  obtain ⟨i0, hi, hz0, hz1, hz2⟩ := info_parts infoI64
  have HA := Lib.hid ha
  have HB := Lib.hid hb
  have HX := Lib.hid (fun i => lz_past (i := i) hx0 hx)
  have HY := Lib.hid (fun i => lz_past (i := i) hy0 hy)
  have hst : ∀ i, (Ten.mx 1 1 x y i + (Ten.lz x i + Ten.lz y i)) % 10 = Ten.lz (x + y) i ∧ (Ten.mx 1 1 x y i + (Ten.lz x i + Ten.lz y i)) / 10 = Ten.mx 1 1 x y (i + 1) := fun i => by
    have h := Ten.mx_step 1 1 x y i
    simp only [Int.one_mul] at h
    exact h
  have ST := Lib.hid hst
  have BD := Lib.hid (fun i => Ten.mx_le (A := 1) (C := 1) x y i (by decide) (by decide))
  have hend : ∀ j, max n k ≤ j → Ten.mx 1 1 x y j = (x + y) / Ten.bp j := fun j hj => by
    have h := Ten.mx_end (A := 1) (C := 1) (x := x) (y := y) (n := j) hx0 (Int.lt_of_lt_of_le hx (Ten.bp_mono (by omega))) hy0 (Int.lt_of_lt_of_le hy (Ten.bp_mono (by omega)))
    simp only [Int.one_mul] at h
    exact h
  have hlast : Ten.mx 1 1 x y (max n k + 1) = 0 := by
    rw [hend _ (by omega)]
    refine Int.ediv_eq_zero_of_lt (by omega) ?_
    rw [Ten.bp_succ]
    have h1 := Ten.bp_mono (Nat.le_max_left n k)
    have h2 := Ten.bp_mono (Nat.le_max_right n k)
    omega
  have hfin : ∀ j, max n k ≤ j → Ten.mx 1 1 x y j = 0 → x + y < Ten.bp j := fun j hj h => by
    rw [hend j hj] at h
    have hp := Ten.bp_pos j
    rcases Int.lt_or_le (x + y) (Ten.bp j) with c | c
    · exact c
    · have := Int.ediv_le_ediv hp c
      rw [Int.ediv_self (by omega)] at this
      omega
  have FIN := Lib.hid hfin
  have LAST := Lib.hid hlast
  have M0 := Ten.mx_zero 1 1 x y
  have hown0 : w.ownsRow w.heap.size 3 1 (.slice none 0 0) 0 (vals (dl (x + y) 0)) := World.ownsRow_nil _ _ _ _
  have hxy0 : 0 ≤ x + y := by omega
  clear hst hend hfin hlast ha hb hx hy
  go_enter Tryz.func163, Tryz.ntmps163
  go_wp2_with fail
  go_loopw [5, 6, 7] (fun v q i wr => ∃ j : Nat, j ≤ max n k + 1 ∧ i = .int .i64 j ∧ q = .int .i64 (Ten.mx 1 1 x y j) ∧ wr.ownsRow w.heap.size 3 1 v j (vals (dl (x + y) j)) ∧ Below w.heap.size w wr) (fun _ _ i _ => max n k + 1 - (intOf i).toNat)
  case atStart => exact ⟨0, by omega, rfl, by rw [M0], hown0, Below.refl _ _⟩
  case round =>
    clear hown0 M0
    obtain ⟨j, hj, rfl, rfl, hown, hbe⟩ := hrel
    have hws := hbe.size
    have hlen : (vals (dl (x + y) j)).length = j := by unfold vals; rw [List.length_map, dl_len]
    obtain ⟨s1, s2⟩ := ST.out j
    obtain ⟨b1, b2⟩ := BD.out j
    obtain ⟨b3, b4⟩ := BD.out (j + 1)
    have l1 := Ten.lz_bd x j
    have l2 := Ten.lz_bd y j
    have zx := HX.out j
    have zy := HY.out j
    have HSC := Lib.hid (dl_succ (x + y) j)
    have hlz := Ten.lz_bd (x + y) j
    have hln : ((Ten.lz (x + y) j).toNat : Int) = Ten.lz (x + y) j := by omega
    have HLN := Lib.hid hln
    have hjm : j = max n k + 1 → Ten.mx 1 1 x y j = 0 := fun e => by rw [e]; exact LAST.out
    have hcx : j < n → ∃ g o, a = some ⟨g, o, none⟩ ∧ wr.cell? ⟨g, o + j, none⟩ = some (.int .i64 (Ten.lz x j)) := fun h => by
      obtain ⟨g, o, e, hg, hc⟩ := HA.out (by omega)
      exact ⟨g, o, e, (below_at hbe (o + j) hg).trans (hc j h)⟩
    have hcy : j < k → ∃ g o, b = some ⟨g, o, none⟩ ∧ wr.cell? ⟨g, o + j, none⟩ = some (.int .i64 (Ten.lz y j)) := fun h => by
      obtain ⟨g, o, e, hg, hc⟩ := HB.out (by omega)
      exact ⟨g, o, e, (below_at hbe (o + j) hg).trans (hc j h)⟩
    have hfj := FIN.out j
    clear hln
    generalize Ten.mx 1 1 x y j = cy at *
    obtain ⟨cz, hcze⟩ : ∃ q, q = Ten.mx 1 1 x y (j + 1) := ⟨_, rfl⟩
    rw [← hcze] at s2 b3 b4
    have hcz0 := hcze
    clear hcze
    generalize Ten.lz (x + y) j = lo at *
    generalize Ten.lz x j = lx at *
    generalize Ten.lz y j = ly at *
    by_cases h1 : j < n
    · obtain ⟨g1, o1, rfl, c1⟩ := hcx h1
      by_cases h2 : j < k
      · obtain ⟨g2, o2, rfl, c2⟩ := hcy h2
        rw [← Int.add_assoc] at s1 s2
        clear hcx hcy
        have HS1 := Lib.hid s1
        have HS2 := Lib.hid (s2.trans hcz0)
        clear s1 s2 hfj zx zy hjm hcz0
        go_wp2_with (at_builtin; refine wpList_append_own _ rfl _ _ 133 rfl w.heap.size 3 i0 (.int .i64 0) 1 8 und64i hi hz0 hz1 hz2 rfl (by decide) _ _ _ rfl (hown.alloc _) ⟨wr.heap.size, 0, none⟩ 1 1 [.int .i64 ((cy + lx + ly) % 10)] rfl rfl ?c1 ?c2 ?c3 ?c4 ?c5 ?_)
        case c1 =>
          intro q u hq
          match q, hq with
          | 0, hq => simp at hq; subst hq; simp [Addr.add]
        case c2 => intro u hu; simp at hu; subst hu; rfl
        case c3 => unfold maxLen; omega
        case c4 => omega
        case c5 => simp; omega
        · intro v' w1 hown' hgrow _
          have R1 : w1.ownsRow w.heap.size 3 1 v' (j + 1) (vals (dl (x + y) (j + 1))) := by
            rw [HSC.out, vals_snoc, HLN.out, ← HS1.out]
            exact hown'
          have R2 : Below w.heap.size w w1 := (hbe.alloc hbe.size _).grown hgrow (by simp; omega) (own8_ge hown)
          clear hown' hgrow hown hbe
          go_wp2
          go_roundw
          case rel => exact ⟨j + 1, by omega, by go_num, by rw [← HS2.out], R1, R2⟩
          case measure => simp [intOf] <;> omega
      · have e2 := zy h2
        rw [e2, Int.add_zero] at s1 s2
        clear hcx hcy
        have HS1 := Lib.hid s1
        have HS2 := Lib.hid (s2.trans hcz0)
        clear s1 s2 hfj zx zy hjm hcz0
        go_wp2_with (at_builtin; refine wpList_append_own _ rfl _ _ 133 rfl w.heap.size 3 i0 (.int .i64 0) 1 8 und64i hi hz0 hz1 hz2 rfl (by decide) _ _ _ rfl (hown.alloc _) ⟨wr.heap.size, 0, none⟩ 1 1 [.int .i64 ((cy + lx) % 10)] rfl rfl ?c1 ?c2 ?c3 ?c4 ?c5 ?_)
        case c1 =>
          intro q u hq
          match q, hq with
          | 0, hq => simp at hq; subst hq; simp [Addr.add]
        case c2 => intro u hu; simp at hu; subst hu; rfl
        case c3 => unfold maxLen; omega
        case c4 => omega
        case c5 => simp; omega
        · intro v' w1 hown' hgrow _
          have R1 : w1.ownsRow w.heap.size 3 1 v' (j + 1) (vals (dl (x + y) (j + 1))) := by
            rw [HSC.out, vals_snoc, HLN.out, ← HS1.out]
            exact hown'
          have R2 : Below w.heap.size w w1 := (hbe.alloc hbe.size _).grown hgrow (by simp; omega) (own8_ge hown)
          clear hown' hgrow hown hbe
          go_wp2
          go_roundw
          case rel => exact ⟨j + 1, by omega, by go_num, by rw [← HS2.out], R1, R2⟩
          case measure => simp [intOf] <;> omega
    · have e1 := zx h1
      by_cases h2 : j < k
      · obtain ⟨g2, o2, rfl, c2⟩ := hcy h2
        rw [e1, Int.zero_add] at s1 s2
        clear hcx hcy
        have HS1 := Lib.hid s1
        have HS2 := Lib.hid (s2.trans hcz0)
        clear s1 s2 hfj zx zy hjm hcz0
        go_wp2_with (at_builtin; refine wpList_append_own _ rfl _ _ 133 rfl w.heap.size 3 i0 (.int .i64 0) 1 8 und64i hi hz0 hz1 hz2 rfl (by decide) _ _ _ rfl (hown.alloc _) ⟨wr.heap.size, 0, none⟩ 1 1 [.int .i64 ((cy + ly) % 10)] rfl rfl ?c1 ?c2 ?c3 ?c4 ?c5 ?_)
        case c1 =>
          intro q u hq
          match q, hq with
          | 0, hq => simp at hq; subst hq; simp [Addr.add]
        case c2 => intro u hu; simp at hu; subst hu; rfl
        case c3 => unfold maxLen; omega
        case c4 => omega
        case c5 => simp; omega
        · intro v' w1 hown' hgrow _
          have R1 : w1.ownsRow w.heap.size 3 1 v' (j + 1) (vals (dl (x + y) (j + 1))) := by
            rw [HSC.out, vals_snoc, HLN.out, ← HS1.out]
            exact hown'
          have R2 : Below w.heap.size w w1 := (hbe.alloc hbe.size _).grown hgrow (by simp; omega) (own8_ge hown)
          clear hown' hgrow hown hbe
          go_wp2
          go_roundw
          case rel => exact ⟨j + 1, by omega, by go_num, by rw [← HS2.out], R1, R2⟩
          case measure => simp [intOf] <;> omega
      · have e2 := zy h2
        rw [e1, e2, Int.add_zero, Int.add_zero] at s1 s2
        by_cases h3 : 0 < cy
        · have hjj : j ≤ max n k := by
            rcases Nat.lt_or_ge (max n k) j with q | q
            · have := hjm (by omega)
              omega
            · exact q
          clear hcx hcy
          have HS1 := Lib.hid s1
          have HS2 := Lib.hid (s2.trans hcz0)
          clear s1 s2 hfj zx zy hjm hcz0
          go_wp2_with (at_builtin; refine wpList_append_own _ rfl _ _ 133 rfl w.heap.size 3 i0 (.int .i64 0) 1 8 und64i hi hz0 hz1 hz2 rfl (by decide) _ _ _ rfl (hown.alloc _) ⟨wr.heap.size, 0, none⟩ 1 1 [.int .i64 ((cy) % 10)] rfl rfl ?c1 ?c2 ?c3 ?c4 ?c5 ?_)
          case c1 =>
            intro q u hq
            match q, hq with
            | 0, hq => simp at hq; subst hq; simp [Addr.add]
          case c2 => intro u hu; simp at hu; subst hu; rfl
          case c3 => unfold maxLen; omega
          case c4 => omega
          case c5 => simp; omega
          · intro v' w1 hown' hgrow _
            have R1 : w1.ownsRow w.heap.size 3 1 v' (j + 1) (vals (dl (x + y) (j + 1))) := by
              rw [HSC.out, vals_snoc, HLN.out, ← HS1.out]
              exact hown'
            have R2 : Below w.heap.size w w1 := (hbe.alloc hbe.size _).grown hgrow (by simp; omega) (own8_ge hown)
            clear hown' hgrow hown hbe
            go_wp2
            go_roundw
            case rel => exact ⟨j + 1, by omega, by go_num, by rw [← HS2.out], R1, R2⟩
            case measure => simp [intOf] <;> omega
        · have hcz : cy = 0 := by omega
          have hlt := hfj (by omega) hcz
          obtain ⟨a', c', hv, hc', hrow⟩ := row_own hown hxy0 hlt
          subst hv
          have HROW := Lib.hid hrow
          have HBE := Lib.hid hbe
          have HLT := Lib.hid hlt
          clear hown hrow hbe s1 s2 hcx hcy zx zy hjm hfj hlt hcz hcz0
          go_wp2
          go_ret
          exact ⟨_, _, _, rfl, hc', hj, hxy0, HLT.out, HROW.out, HBE.out⟩
end Go.Proofs.YtkhebidmfjbhaaaGreatDoor
