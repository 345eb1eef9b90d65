/-
  What the reference's trim returns. A row of ints holds the digits of a number, the lowest first.
  What the reference's text and Fit return.
  Rows of decimal digits that the call itself appends.
-/
import Derived.Test.YtphbfjcaehiboaaGreatDoorZm
import Derived.Laws.AppendOwnNone
import Derived.Deep.AppendLies
import Derived.Laws.OwnMore
namespace Go.Proofs.YtphbfjcaehiboaaGreatDoor
open Go.RowKit

def RowD (w : World) (B : Nat) (a : Option Addr) (n : Nat) (z : Int) : Prop :=
  0 < n → ∃ g o, a = some ⟨g, o, none⟩ ∧ g < B ∧ ∀ j, j < n → w.cell? ⟨g, o + j, none⟩ = some (.int .i64 (Ten.lz z j))
set_option maxHeartbeats 400000 in
theorem rtrim_any (a : Option Addr) (n c : Nat) (z : Int) (w : World) (hz : 0 ≤ z) (hz' : z < Ten.bp n) (hc : n ≤ c) (hm : n ≤ 1000000) (hr : RowD w w.heap.size a n z) :
    Calls Tryz.prog 80 #[.slice a n c] w fun e w' => e = .returned (.slice a (Ten.nl z) c) ∧ w = w' := by
  have HZ := Lib.hid hz'
  have HR := Lib.hid hr
  clear hr hz'
  go_enter Tryz.func80, Tryz.ntmps80
  go_wp2
  go_loop [0] (fun v => ∃ k : Nat, k ≤ n ∧ z < Ten.bp k ∧ v = .slice a k c) (fun v => match v with | .slice _ k _ => k | _ => 0)
  case atStart => exact ⟨n, by omega, HZ.out, rfl⟩
  case round =>
    obtain ⟨k, hk, hzk, rfl⟩ := hrel
    have HK := Lib.hid hzk
    clear hzk
    rcases Nat.eq_zero_or_pos k with hk0 | hk0
    · subst hk0
      have hz0 : z = 0 := by have := HK.out; rw [Ten.bp_zero] at this; omega
      have hn0 : Ten.nl z = 0 := by rw [hz0, Ten.nl_zero]
      have HN := Lib.hid hn0
      clear hn0 hz0
      go_wp2
      go_ret
      exact ⟨by rw [HN.out]; rfl, rfl⟩
    · obtain ⟨g, o, rfl, hg, hcl⟩ := HR.out (by omega)
      have hcell := hcl (k - 1) (by omega)
      have hb := Ten.lz_bd z (k - 1)
      clear hcl
      go_wp2
      · have e : Ten.lz z (k - 1) = 0 := by simpa using ‹(Ten.lz z (k - 1) == 0) = true›
        go_round
        case rel => exact ⟨k - 1, by omega, Ten.lt_of_top hz (by rw [show k - 1 + 1 = k by omega]; exact HK.out) e, by first | rfl | (congr 1; omega)⟩
        case measure => simp; omega
      · have e : Ten.lz z (k - 1) ≠ 0 := by simpa using ‹(Ten.lz z (k - 1) == 0) = false›
        have hn : k = Ten.nl z := by
          have := Ten.nl_of_top (k := k - 1) hz (by rw [show k - 1 + 1 = k by omega]; exact HK.out) e
          omega
        go_ret
        exact ⟨by rw [← hn]; rfl, rfl⟩
end Go.Proofs.YtphbfjcaehiboaaGreatDoor
namespace Go.Proofs.YtphbfjcaehiboaaGreatDoor
open Go.RowKit

theorem und64i : Tryz.prog.underlying 55 = some (.slice 3) := by kernel_rfl
theorem infoI64 : (Tryz.prog.info? 3).map (fun i => (i.zero, i.size, i.bytes)) = some (some (.int .i64 0), 1, 8) := by kernel_rfl
/-- The bytes of a number's text, the first k digits of them. -/
def row8 (b : Bool) (z : Int) (m k : Nat) : List Value := (if b then [Value.int .u8 45] else []) ++ (List.range k).map (fun j => Value.int .u8 (db z m j))
def off8 (b : Bool) : Nat := if b then 1 else 0
theorem row8_len (b : Bool) (z : Int) (m k : Nat) : (row8 b z m k).length = off8 b + k := by unfold row8 off8; cases b <;> simp <;> omega
theorem row8_succ (b : Bool) (z : Int) (m k : Nat) : row8 b z m (k + 1) = row8 b z m k ++ [.int .u8 (db z m k)] := by
  unfold row8
  rw [List.range_succ, List.map_append, ← List.append_assoc]
  rfl
theorem own8_ge {w : World} {base : Nat} {e : TypeId} {size n : Nat} {v : Value} {xs : List Value} (h : w.ownsRow base e size v n xs) (k : Nat) (hk : v.ownBlock = some k) : base ≤ k := by
  rcases h.2 with ⟨rfl, _⟩ | ⟨g, cap, cur, rfl, hg, _⟩
  · cases hk
  · simp [Value.ownBlock] at hk
    omega
/-- The bytes that are written are the text. -/
theorem row8_str (b : Bool) {z : Int} (hz : 0 < z) : strOfNums ((if b then [45] else []) ++ (List.range (dn z)).map (fun j => db z (dn z) j)) = tx (if b then -z else z) := by
  have hza : (z.natAbs : Int) = z := by omega
  cases b with
  | false =>
    have h := str_digits z
    rw [hza] at h
    simp only [Bool.false_eq_true, if_false, List.nil_append]
    rw [h, tx_pos (by omega)]
  | true =>
    have h := str_signed (z := -z) (by omega)
    rw [Int.natAbs_neg, hza, dn_neg] at h
    simp only [if_true]
    exact h
def nums8 (b : Bool) (z : Int) (m : Nat) : List Int := (if b then [45] else []) ++ (List.range m).map (fun j => db z m j)
theorem row8_map (b : Bool) (z : Int) (m : Nat) : row8 b z m m = (nums8 b z m).map (Value.int .u8) := by
  unfold row8 nums8
  cases b <;> simp
theorem nums8_len (b : Bool) (z : Int) (m : Nat) : (nums8 b z m).length = off8 b + m := by unfold nums8 off8; cases b <;> simp <;> omega
theorem conv8 (b : Bool) (z : Int) (m g c : Nat) (w : World) (h : ∀ j, j < off8 b + m → w.cell? ⟨g, j, none⟩ = (row8 b z m m)[j]?) :
    (convert 90 22 (.slice (some ⟨g, 0, none⟩) (off8 b + m) c)).run Tryz.prog w = .ok (.string (strOfNums (nums8 b z m))) w := by
  rw [run_convert_bytes_arg w 90 5 undU8s undU8 g 0 (off8 b + m) c (nums8 b z m) (nums8_len b z m) (fun j hj => by
    rw [Nat.zero_add, h j hj, row8_map, List.getElem?_map]
    simp [List.getD, show j < (nums8 b z m).length by rw [nums8_len]; exact hj]) _ undInt]
set_option maxHeartbeats 2000000 in
set_option maxRecDepth 100000 in
theorem rtext_pos (b : Bool) (a : Option Addr) (n c : Nat) (z : Int) (w : World) (hz : 0 < z) (hz' : z < Ten.bp n) (hc : n ≤ c) (hm : n ≤ 1000000) (hr : RowD w w.heap.size a n z) :
    Calls Tryz.prog 46 #[.bool b, .slice a n c] w (GivesY (tx (if b then -z else z)) w) := by
  obtain ⟨i8, hi, hz0, hz1, hz2⟩ := info_parts infoU8
  have hst := row8_str b hz
  have TR := Lib.hid (rtrim_any a n c z w (by omega) hz' hc hm hr)
  have hnl := Ten.nl_pos hz
  have hnn : Ten.nl z ≤ n := Ten.nl_le hz'
  rw [dn_ten hz] at hst
  obtain ⟨m, hmm⟩ : ∃ m, m = Ten.nl z := ⟨_, rfl⟩
  rw [← hmm] at hst hnl hnn TR
  obtain ⟨g, o, rfl, hg, hcl⟩ := hr (by omega)
  have HC := Lib.hid hcl
  have HST := Lib.hid hst
  obtain ⟨T, hT⟩ : ∃ T, T = tx (if b = true then -z else z) := ⟨_, rfl⟩
  rw [← hT] at HST ⊢
  have hne : (((m : Nat) : Int) == 0) = false := by rw [beq_eq_false_iff_ne]; omega
  clear hr hcl hst hT hz' hz hmm
  go_enter Tryz.func46, Tryz.ntmps46
  go_wp2_with fail
  refine TR.out.mono ?_
  rintro e w' ⟨rfl, rfl⟩
  cases b with
  | false =>
    have hown0 : w.ownsRow w.heap.size 5 1 (.slice none 0 0) (off8 false + 0) (row8 false z m 0) := World.ownsRow_nil _ _ _ _
    go_wp2_with fail
    go_loopw [5, 6] (fun v i wr => ∃ k : Nat, k ≤ m ∧ i = .int .i64 ((m : Int) - 1 - k) ∧ wr.ownsRow w.heap.size 5 1 v (off8 false + k) (row8 false z m k) ∧ Below w.heap.size w wr) (fun _ i _ => (intOf i + 1).toNat)
    case atStart => exact ⟨0, by omega, by go_num, hown0, Below.refl _ _⟩
    case round =>
      obtain ⟨k, hk, rfl, hown, hb⟩ := hrel
      have hlen := row8_len false z m k
      have hob : off8 false ≤ 1 := by unfold off8; decide
      have hws := hb.size
      by_cases hlt : k < m
      · have hcell := (below_at hb (o + (m - 1 - k)) hg).trans (HC.out (m - 1 - k) (by omega))
        have hbd := Ten.lz_bd z (m - 1 - k)
        have hdb : 48 + Ten.lz z (m - 1 - k) = db z m k := rfl
        have hsucc := Lib.hid (row8_succ false z m k)
        have HDB := Lib.hid hdb
        have hip : (m : Int) - 1 - k = ((m - 1 - k : Nat) : Int) := by omega
        rw [hip]
        obtain ⟨l, hl⟩ : ∃ l, l = Ten.lz z (m - 1 - k) := ⟨_, rfl⟩
        rw [← hl] at hcell hbd HDB
        obtain ⟨p, hp⟩ : ∃ p, p = m - 1 - k := ⟨_, rfl⟩
        rw [← hp] at hcell ⊢
        have HP := Lib.hid hp
        have hpm : p < m := by omega
        clear hl hdb hip hp
        go_wp2_with (at_builtin; refine wpList_append_own _ rfl _ _ 90 rfl w.heap.size 5 i8 (.int .u8 0) 1 1 undU8s hi hz0 hz1 hz2 rfl (by decide) _ _ _ rfl (hown.alloc _) ⟨wr.heap.size, 0, none⟩ 1 1 [.int .u8 (48 + l)] rfl rfl ?c1 ?c2 ?c3 ?c4 ?c5 ?_)
        case c1 =>
          intro k u hk
          match k, hk with
          | 0, hk => simp at hk; subst hk; simp [Addr.add]
        case c2 => intro u hu; simp at hu; subst hu; rfl
        case c3 => unfold maxLen; omega
        case c4 => omega
        case c5 => simp; omega
        · intro v' w1 hown' hgrow _
          have R1 : w1.ownsRow w.heap.size 5 1 v' (off8 false + (k + 1)) (row8 false z m (k + 1)) := by
            rw [hsucc.out, ← HDB.out]
            exact hown'
          have R2 : Below w.heap.size w w1 := (hb.alloc hb.size _).grown hgrow (by simp; omega) (own8_ge hown)
          clear hown' hgrow hown hb
          go_wp2
          go_roundw
          case rel => exact ⟨k + 1, by omega, by have := HP.out; go_num, R1, R2⟩
          case measure => (have := HP.out; simp [intOf] <;> omega)
      · have hkm : k = m := by omega
        rw [hkm] at hown
        obtain ⟨g', cap, hv, _, _⟩ := hown.form (by omega)
        subst hv
        have hcv := conv8 false z m g' cap wr (fun j hj => hown.cellAt j (by omega))
        rw [show strOfNums (nums8 false z m) = T from HST.out] at hcv
        have HB := Lib.hid hb
        have hlt' : ¬ (0 : Int) ≤ (m : Int) - 1 - k := by omega
        clear hown hlen hob hws hb hkm hlt
        go_wp2
        go_ret
        exact ⟨rfl, HB.out⟩
  | true =>
    have hown1 : w.ownsRow w.heap.size 5 1 (.slice none 0 0) 0 [] := World.ownsRow_nil _ _ _ _
    go_wp2_with (at_builtin; refine wpList_append_own _ rfl _ _ 90 rfl w.heap.size 5 i8 (.int .u8 0) 1 1 undU8s hi hz0 hz1 hz2 rfl (by decide) _ _ _ rfl (hown1.alloc _) ⟨w.heap.size, 0, none⟩ 1 1 [.int .u8 45] rfl rfl ?c1 ?c2 ?c3 ?c4 ?c5 ?_)
    case c1 =>
      intro k u hk
      match k, hk with
      | 0, hk => simp at hk; subst hk; simp [Addr.add]
    case c2 => intro u hu; simp at hu; subst hu; rfl
    case c3 => unfold maxLen; omega
    case c4 => omega
    case c5 => simp
    · intro v0 w0 hown' hgrow _
      have hown0 : w0.ownsRow w.heap.size 5 1 v0 (off8 true + 0) (row8 true z m 0) := hown'
      have hb0 : Below w.heap.size w w0 := ((Below.refl _ _).alloc (Nat.le_refl _) _).grown hgrow (by simp) (own8_ge hown1)
      clear hown' hgrow hown1
      go_wp2_with fail
      go_loopw [5, 6] (fun v i wr => ∃ k : Nat, k ≤ m ∧ i = .int .i64 ((m : Int) - 1 - k) ∧ wr.ownsRow w.heap.size 5 1 v (off8 true + k) (row8 true z m k) ∧ Below w.heap.size w wr) (fun _ i _ => (intOf i + 1).toNat)
      case atStart => exact ⟨0, by omega, by go_num, hown0, hb0⟩
      case round =>
        obtain ⟨k, hk, rfl, hown, hb⟩ := hrel
        have hlen := row8_len true z m k
        have hob : off8 true ≤ 1 := by unfold off8; decide
        have hws := hb.size
        by_cases hlt : k < m
        · have hcell := (below_at hb (o + (m - 1 - k)) hg).trans (HC.out (m - 1 - k) (by omega))
          have hbd := Ten.lz_bd z (m - 1 - k)
          have hdb : 48 + Ten.lz z (m - 1 - k) = db z m k := rfl
          have hsucc := Lib.hid (row8_succ true z m k)
          have HDB := Lib.hid hdb
          have hip : (m : Int) - 1 - k = ((m - 1 - k : Nat) : Int) := by omega
          rw [hip]
          obtain ⟨l, hl⟩ : ∃ l, l = Ten.lz z (m - 1 - k) := ⟨_, rfl⟩
          rw [← hl] at hcell hbd HDB
          obtain ⟨p, hp⟩ : ∃ p, p = m - 1 - k := ⟨_, rfl⟩
          rw [← hp] at hcell ⊢
          have HP := Lib.hid hp
          have hpm : p < m := by omega
          clear hl hdb hip hp
          go_wp2_with (at_builtin; refine wpList_append_own _ rfl _ _ 90 rfl w.heap.size 5 i8 (.int .u8 0) 1 1 undU8s hi hz0 hz1 hz2 rfl (by decide) _ _ _ rfl (hown.alloc _) ⟨wr.heap.size, 0, none⟩ 1 1 [.int .u8 (48 + l)] rfl rfl ?c1 ?c2 ?c3 ?c4 ?c5 ?_)
          case c1 =>
            intro k u hk
            match k, hk with
            | 0, hk => simp at hk; subst hk; simp [Addr.add]
          case c2 => intro u hu; simp at hu; subst hu; rfl
          case c3 => unfold maxLen; omega
          case c4 => omega
          case c5 => simp; omega
          · intro v' w1 hown' hgrow _
            have R1 : w1.ownsRow w.heap.size 5 1 v' (off8 true + (k + 1)) (row8 true z m (k + 1)) := by
              rw [hsucc.out, ← HDB.out]
              exact hown'
            have R2 : Below w.heap.size w w1 := (hb.alloc hb.size _).grown hgrow (by simp; omega) (own8_ge hown)
            clear hown' hgrow hown hb
            go_wp2
            go_roundw
            case rel => exact ⟨k + 1, by omega, by have := HP.out; go_num, R1, R2⟩
            case measure => (have := HP.out; simp [intOf] <;> omega)
        · have hkm : k = m := by omega
          rw [hkm] at hown
          obtain ⟨g', cap, hv, _, _⟩ := hown.form (by omega)
          subst hv
          have hcv := conv8 true z m g' cap wr (fun j hj => hown.cellAt j (by omega))
          rw [show strOfNums (nums8 true z m) = T from HST.out] at hcv
          have HB := Lib.hid hb
          have hlt' : ¬ (0 : Int) ≤ (m : Int) - 1 - k := by omega
          clear hown hlen hob hws hb hkm hlt
          go_wp2
          go_ret
          exact ⟨rfl, HB.out⟩
theorem rtext_zero (b : Bool) (a : Option Addr) (n c : Nat) (w : World) (hc : n ≤ c) (hm : n ≤ 1000000) (hr : RowD w w.heap.size a n 0) :
    Calls Tryz.prog 46 #[.bool b, .slice a n c] w (GivesY (tx 0) w) := by
  have hT : tx 0 = ⟨#[48]⟩ := by unfold tx; simp [Lib.itoa, Lib.decDigits]
  have htr := rtrim_any a n c 0 w (by omega) (Ten.bp_pos n) hc hm hr
  rw [Ten.nl_zero] at htr
  have TR := Lib.hid htr
  rw [hT]
  clear htr hT hr
  go_enter Tryz.func46, Tryz.ntmps46
  go_wp2_with fail
  refine TR.out.mono ?_
  rintro e w' ⟨rfl, rfl⟩
  go_wp2
  go_ret
  exact ⟨rfl, Below.refl _ _⟩
theorem rtext_any (b : Bool) (a : Option Addr) (n c : Nat) (z : Int) (w : World) (hz : 0 ≤ z) (hz' : z < Ten.bp n) (hc : n ≤ c) (hm : n ≤ 1000000) (hr : RowD w w.heap.size a n z) :
    Calls Tryz.prog 46 #[.bool b, .slice a n c] w (GivesY (tx (if b then -z else z)) w) := by
  rcases Int.lt_or_le 0 z with h | h
  · exact rtext_pos b a n c z w h hz' hc hm hr
  · obtain rfl : z = 0 := by omega
    rw [show (if b = true then -(0 : Int) else 0) = 0 by split <;> rfl]
    exact rtext_zero b a n c w hc hm hr
end Go.Proofs.YtphbfjcaehiboaaGreatDoor
namespace Go.Proofs.YtphbfjcaehiboaaGreatDoor
open Go.RowKit

/-- The number with these decimal digits, the lowest first. -/
def dv : List Nat → Int
  | [] => 0
  | d :: l => d + 10 * dv l
theorem dv_bd : ∀ l : List Nat, (∀ d, d ∈ l → d < 10) → 0 ≤ dv l ∧ dv l < Ten.bp l.length
  | [], _ => by rw [dv, List.length_nil, Ten.bp_zero]; omega
  | d :: l, h => by
    have h1 := dv_bd l (fun x hx => h x (List.mem_cons_of_mem _ hx))
    have h2 := h d List.mem_cons_self
    rw [dv, List.length_cons, Ten.bp_succ]
    omega
theorem dv_lz : ∀ (l : List Nat), (∀ d, d ∈ l → d < 10) → ∀ (j : Nat) (hj : j < l.length), Ten.lz (dv l) j = l[j]
  | d :: l, h, 0, _ => by
    have h2 := h d List.mem_cons_self
    unfold Ten.lz
    rw [dv, Ten.div_bp_zero]
    show _ = (d : Int)
    omega
  | d :: l, h, j + 1, hj => by
    have h1 := dv_lz l (fun x hx => h x (List.mem_cons_of_mem _ hx)) j (by simpa using hj)
    have h2 := h d List.mem_cons_self
    have e : Ten.lz (dv (d :: l)) (j + 1) = Ten.lz (dv (d :: l) / Ten.bp 1) j := by rw [Ten.lz_shift, Nat.add_comm]
    rw [e, dv, Ten.bp_one, show ((d : Int) + 10 * dv l) / 10 = dv l by omega, h1]
    rfl
def vals (l : List Nat) : List Value := l.map fun q : Nat => Value.int .i64 (q : Int)
theorem vals_snoc (l : List Nat) (j : Nat) : vals (l ++ [j]) = vals l ++ [.int .i64 (j : Int)] := by simp [vals]
theorem rowD_of_own {w : World} {B : Nat} {v : Value} {l : List Nat} (h : w.ownsRow B 3 1 v l.length (vals l)) (hd : ∀ d, d ∈ l → d < 10) : ∃ a c, v = .slice a l.length c ∧ l.length ≤ c ∧ RowD w w.heap.size a l.length (dv l) := by
  rcases Nat.eq_zero_or_pos l.length with e | e
  · rcases h.2 with ⟨hv, _⟩ | ⟨g, cap, cur, hv, _, _, hc, _⟩
    · exact ⟨none, 0, by rw [hv, e], by omega, fun k => absurd k (by omega)⟩
    · exact ⟨some ⟨g, 0, none⟩, cap, by rw [hv], hc, fun k => absurd k (by omega)⟩
  · obtain ⟨g, cap, hv, _, _⟩ := h.form e
    rcases h.2 with ⟨hv', _⟩ | ⟨g', cap', cur, hv', _, _, hc, _⟩
    · rw [hv] at hv'; cases hv'
    · rw [hv] at hv'
      injection hv' with e1 e2 e3
      subst e3
      subst hv
      refine ⟨_, cap, rfl, hc, fun _ => ⟨g, 0, rfl, ?_, fun j hj => ?_⟩⟩
      · exact World.block_lt_of_cell? w ⟨g, 0, none⟩ (u := .int .i64 (l[0] : Nat)) (by rw [h.cellAt 0 (by omega)]; simp [vals, e])
      · rw [Nat.zero_add, h.cellAt j (by omega), dv_lz l hd j hj]
        simp [vals, hj]
end Go.Proofs.YtphbfjcaehiboaaGreatDoor
