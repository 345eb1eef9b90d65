/-
  What whole.word, words, Of, floorMod and gcdWord return.
  What whole.floorMod and gcdWord return.
  What whole.combine returns.
  What whole.Add, Sub and Mul return.
  What whole.Valid, Sign, Neg and Abs return.
  The order of texts of one length is that of the numbers.
  What whole.Cmp returns.
  What the laws' helper is returns.
-/
import Derived.Test.YtphbfjcaehiboaaGreatDoorZe
import Derived.Lib.AppendIntMem
import Derived.Test.YtphbfjcaehiboaaGreatDoorShelf
import Derived.Test.YtphbfjcaehiboaaGreatDoorZf
namespace Go.Proofs.YtphbfjcaehiboaaGreatDoor
open Go.RowKit

def GivesWo (z : Int) (b : Bool) (w : World) (e : Ending) (w' : World) : Prop := e = .returned (.tuple #[.int .i64 z, .bool b]) ∧ w = w'
theorem grp_b18 (u : Int) {len e : Nat} (h : e ≤ 18) : 0 ≤ grp u len 0 e ∧ grp u len 0 e < 1000000000000000000 := by
  unfold grp
  have hp := Ten.bp_pos (e - 0)
  have h1 := Ten.bp_mono (show e - 0 ≤ 18 by omega)
  have h2 : Ten.bp 18 = 1000000000000000000 := by unfold Ten.bp; decide
  exact ⟨Int.emod_nonneg _ (by omega), by have := Int.emod_lt_of_pos (u / Ten.bp (len - e)) hp; omega⟩
theorem grp_all {u : Int} {len : Nat} (h0 : 0 ≤ u) (h : u < Ten.bp len) : grp u len 0 len = u := by
  unfold grp
  rw [Nat.sub_self, Ten.div_bp_zero, Nat.sub_zero, Ten.mod_self h0 h]
set_option maxHeartbeats 800000 in
set_option maxRecDepth 100000 in
theorem word_tx (z : Int) (w : World) (h : (tx z).size ≤ 18) :
    Calls Tryz.prog 81 #[.string (tx z)] w (GivesWo z true w) := by
  have hts := tx_size z
  have hdn : dn z ≤ 18 := by split at hts <;> omega
  have hsp := split_tx z w (by omega)
  have hlt := dn_lt (x := (z.natAbs : Int)) (by omega)
  rw [dn_abs] at hlt
  have hsz : (td z.natAbs).size = dn z := by rw [td_size]; rfl
  rw [← hsz] at hlt
  have hdig := fun k hk => td_dig z.natAbs k hk
  have hlz := fun k hk => td_lz z.natAbs k hk
  have hpos : 0 < (td z.natAbs).size := by rw [hsz]; exact dn_pos _
  have hall := grp_all (u := (z.natAbs : Int)) (by omega) hlt
  have h18 : (td z.natAbs).size ≤ 18 := by omega
  obtain ⟨D, hD⟩ : ∃ D, D = td z.natAbs := ⟨_, rfl⟩
  obtain ⟨T, hT⟩ : ∃ T, T = tx z := ⟨_, rfl⟩
  obtain ⟨b, hb⟩ : ∃ b, b = decide (z < 0) := ⟨_, rfl⟩
  rw [← hb, ← hT, ← hD] at hsp
  rw [← hD] at hlz hdig hpos hall h18
  rw [← hT] at h ⊢
  have SP := Lib.hid hsp
  have HDIG := Lib.hid hdig
  have HLZ := Lib.hid hlz
  have HALL := Lib.hid hall
  have HB := Lib.hid hb
  have G0 := Lib.hid (grp_zero (z.natAbs : Int) D.size 0)
  clear hsp hdig hlz hall hb hts hdn hlt hsz hT hD
  go_enter Tryz.func81, Tryz.ntmps81
  go_wp2_with fail
  refine SP.out.mono ?_
  rintro e w' ⟨rfl, rfl⟩
  go_wp2_with fail
  go_loop [7, 20] (fun l i => ∃ j : Nat, j ≤ D.size ∧ i = .int .i64 j ∧ l = .int .i64 (grp z.natAbs D.size 0 j)) (fun _ i => D.size - (intOf i).toNat)
  case atStart => exact ⟨0, by omega, rfl, by rw [G0.out]⟩
  case round =>
    obtain ⟨j, hj1, rfl, rfl⟩ := hrel
    by_cases hlt : j < D.size
    · obtain ⟨b1, b2⟩ := HDIG.out j hlt
      have hl := HLZ.out j hlt
      have hst := grp_step (u := (z.natAbs : Int)) (len := D.size) (Nat.zero_le j) hlt
      obtain ⟨g1, g2⟩ := grp_b18 (z.natAbs : Int) (len := D.size) (e := j) (by omega)
      obtain ⟨g3, g4⟩ := grp_b18 (z.natAbs : Int) (len := D.size) (e := j + 1) (by omega)
      rw [hst, show Ten.lz (z.natAbs : Int) (D.size - 1 - j) = (D[j].toNat : Int) - 48 by omega] at g3 g4
      have HL := Lib.hid hl
      have HST := Lib.hid hst
      clear hl hst
      generalize grp (z.natAbs : Int) D.size 0 j = gv at *
      go_wp2
      go_round
      case rel => exact ⟨j + 1, by omega, by go_num, by rw [HST.out]; have := HL.out; congr 1; omega⟩
      case measure => simp [intOf]; omega
    · obtain rfl : j = D.size := by omega
      rw [HALL.out]
      have hn1 : (z.natAbs : Int) < 1000000000000000000 := by have := grp_b18 (z.natAbs : Int) (len := D.size) (e := D.size) (by omega); rw [HALL.out] at this; omega
      cases b
      · have hz : (z.natAbs : Int) = z := by have := of_decide_eq_false HB.out.symm; omega
        rw [hz]
        go_wp2
        go_ret2
        exact ⟨rfl, rfl⟩
      · have hz : (z.natAbs : Int) = -z := by have := of_decide_eq_true HB.out.symm; omega
        rw [hz] at hn1 ⊢
        have hz2 : z < 0 := of_decide_eq_true HB.out.symm
        go_wp2
        go_ret2
        exact ⟨by first | rfl | (congr 1; simp) | go_num, rfl⟩
set_option maxHeartbeats 400000 in
theorem word_no (s : ByteArray) (w : World) (hm : s.size ≤ 9223372036854775807) (h : 18 < s.size ∨ isT s.data.toList = false) :
    Calls Tryz.prog 81 #[.string s] w (GivesWo 0 false w) := by
  by_cases h1 : 18 < s.size
  · clear h
    go_enter Tryz.func81, Tryz.ntmps81
    go_wp2
    go_ret2
    exact ⟨rfl, rfl⟩
  · have h2 : isT s.data.toList = false := by
      rcases h with h | h
      · exact absurd h h1
      · exact h
    have SP := Lib.hid (split_no s w hm h2)
    have h3 : s.size ≤ 18 := by omega
    clear h h1 h2
    go_enter Tryz.func81, Tryz.ntmps81
    go_wp2_with fail
    refine SP.out.mono ?_
    rintro e w' ⟨rfl, rfl⟩
    go_wp2_with fail
    go_loop [7, 20] (fun l i => i = .int .i64 0 ∧ l = .int .i64 0) (fun _ _ => 0)
    case atStart => exact ⟨rfl, rfl⟩
    case round =>
      obtain ⟨rfl, rfl⟩ := hrel
      go_wp2
      go_ret2
      exact ⟨rfl, rfl⟩
def GivesWo2 (x y : Int) (b : Bool) (w : World) (e : Ending) (w' : World) : Prop := e = .returned (.tuple #[.int .i64 x, .int .i64 y, .bool b]) ∧ w = w'
theorem words_yes (x y : Int) (w : World) (hx : (tx x).size ≤ 18) (hy : (tx y).size ≤ 18) :
    Calls Tryz.prog 47 #[.string (tx x), .string (tx y)] w (GivesWo2 x y true w) := by
  have W1 := Lib.hid (word_tx x w hx)
  have W2 := Lib.hid (word_tx y w hy)
  go_enter Tryz.func47, Tryz.ntmps47
  go_wp2_with fail
  refine W1.out.mono ?_
  rintro e w' ⟨rfl, rfl⟩
  go_wp2_with fail
  refine W2.out.mono ?_
  rintro e w' ⟨rfl, rfl⟩
  go_wp2
  go_ret3
  exact ⟨rfl, rfl⟩
theorem words_no1 (s : ByteArray) (t : Value) (w : World) (hm : s.size ≤ 9223372036854775807) (h : 18 < s.size ∨ isT s.data.toList = false) :
    Calls Tryz.prog 47 #[.string s, t] w (GivesWo2 0 0 false w) := by
  have W1 := Lib.hid (word_no s w hm h)
  clear h
  go_enter Tryz.func47, Tryz.ntmps47
  go_wp2_with fail
  refine W1.out.mono ?_
  rintro e w' ⟨rfl, rfl⟩
  go_wp2
  go_ret3
  exact ⟨rfl, rfl⟩
theorem words_no2 (x : Int) (s : ByteArray) (w : World) (hx : (tx x).size ≤ 18) (hm : s.size ≤ 9223372036854775807) (h : 18 < s.size ∨ isT s.data.toList = false) :
    Calls Tryz.prog 47 #[.string (tx x), .string s] w (GivesWo2 x 0 false w) := by
  have W1 := Lib.hid (word_tx x w hx)
  have W2 := Lib.hid (word_no s w hm h)
  clear h
  go_enter Tryz.func47, Tryz.ntmps47
  go_wp2_with fail
  refine W1.out.mono ?_
  rintro e w' ⟨rfl, rfl⟩
  go_wp2_with fail
  refine W2.out.mono ?_
  rintro e w' ⟨rfl, rfl⟩
  go_wp2
  go_ret3
  exact ⟨rfl, rfl⟩
/-- The table of powers of ten is what its initialiser lays, here and after any call. -/
def Tb (w : World) : Prop := Lib.TabBelow Tryz.prog w.heap.size w "internal/strconv.uint64pow10" .u64 Lib.pow10Tab
theorem Tb.below {w w' : World} (h : Tb w) (hb : Below w.heap.size w w') : Tb w' := fun w2 h2 => h w2 (hb.trans (h2.mono hb.size))
/-- The call hands back a text. -/
def GivesY (s : ByteArray) (w : World) (e : Ending) (w' : World) : Prop := e = .returned (.string s) ∧ Below w.heap.size w w'
theorem of_any (n : Int) (w : World) (ht : Tb w) (h0 : -9223372036854775808 ≤ n) (h1 : n ≤ 9223372036854775807) :
    Calls Tryz.prog 17 #[.int .i64 n] w (GivesY (tx n) w) := by
  have FI := Lib.hid (Tryz.strconv_FormatInt_10 n h0 h1 w ht.here)
  clear ht
  go_enter Tryz.func17, Tryz.ntmps17
  go_wp2_with fail
  refine FI.out.mono ?_
  rintro e w' ⟨rfl, k, os, rfl⟩
  go_wp2
  go_ret
  exact ⟨rfl, Lib.below_grow _ _ (Nat.le_refl _) _ _⟩
end Go.Proofs.YtphbfjcaehiboaaGreatDoor
namespace Go.Proofs.YtphbfjcaehiboaaGreatDoor
open Go.RowKit

theorem fl_pos {x y q r : Int} (hy : 0 < y) (h : r + y * q = x) (h0 : 0 ≤ r) (h1 : r < y) : q = x.fdiv y ∧ r = x.fmod y := by
  obtain ⟨a, b⟩ := (Int.fdiv_fmod_unique hy).2 ⟨h, h0, h1⟩
  exact ⟨a.symm, b.symm⟩
theorem fl_neg {x y q r : Int} (hy : y < 0) (h : r + y * q = x) (h0 : y < r) (h1 : r ≤ 0) : q = x.fdiv y ∧ r = x.fmod y := by
  obtain ⟨a, b⟩ := (Int.fdiv_fmod_unique' hy).2 ⟨h, h0, h1⟩
  exact ⟨a.symm, b.symm⟩
theorem tmod_bd {x y : Int} (hy : y ≠ 0) : (x.tmod y).natAbs < y.natAbs ∧ (0 ≤ x → 0 ≤ x.tmod y) ∧ (x ≤ 0 → x.tmod y ≤ 0) ∧ y * x.tdiv y + x.tmod y = x := by
  refine ⟨?_, fun h => Int.tmod_nonneg y h, fun h => ?_, Int.mul_tdiv_add_tmod x y⟩
  · rw [Int.natAbs_tmod]; exact Nat.mod_lt _ (by omega)
  · have := Int.tmod_nonneg y (show 0 ≤ -x by omega)
    rw [Int.neg_tmod] at this
    omega
theorem fmod_case {x y t : Int} (hy : y ≠ 0) (ht : x.tmod y = t) : (t = 0 → x.fmod y = 0) ∧ (t < 0 → 0 < y → x.fmod y = t + y) ∧ (0 < t → y < 0 → x.fmod y = t + y) ∧ (t < 0 → y < 0 → x.fmod y = t) ∧ (0 < t → 0 < y → x.fmod y = t) := by
  obtain ⟨h1, _, _, h4⟩ := tmod_bd (x := x) hy
  rw [ht] at h1 h4
  refine ⟨fun h => ?_, fun h h5 => ?_, fun h h5 => ?_, fun h h5 => ?_, fun h h5 => ?_⟩
  · rcases Int.lt_or_lt_of_ne hy with h5 | h5
    · rw [(fl_neg (q := x.tdiv y) (r := t) h5 (by omega) (by omega) (by omega)).2.symm, h]
    · rw [(fl_pos (q := x.tdiv y) (r := t) h5 (by omega) (by omega) (by omega)).2.symm, h]
  · exact (fl_pos (q := x.tdiv y - 1) (r := t + y) h5 (by rw [Int.mul_sub]; omega) (by omega) (by omega)).2.symm
  · exact (fl_neg (q := x.tdiv y - 1) (r := t + y) h5 (by rw [Int.mul_sub]; omega) (by omega) (by omega)).2.symm
  · exact (fl_neg (q := x.tdiv y) (r := t) h5 (by omega) (by omega) (by omega)).2.symm
  · exact (fl_pos (q := x.tdiv y) (r := t) h5 (by omega) (by omega) (by omega)).2.symm
set_option maxHeartbeats 400000 in
theorem floorMod_any (x y : Int) (w : World) (hy : y ≠ 0) (hy1 : -1000000000000000000 < y) (hy2 : y < 1000000000000000000) :
    Calls Tryz.prog 56 #[.int .i64 x, .int .i64 y] w fun e w' => e = .returned (.int .i64 (x.fmod y)) ∧ w = w' := by
  obtain ⟨h1, h2, h3, _⟩ := tmod_bd (x := x) hy
  obtain ⟨t, ht⟩ : ∃ t, x.tmod y = t := ⟨_, rfl⟩
  obtain ⟨c1, c2, c3, c4, c5⟩ := fmod_case hy ht
  obtain ⟨f, hf⟩ : ∃ f, x.fmod y = f := ⟨_, rfl⟩
  rw [hf] at c1 c2 c3 c4 c5 ⊢
  rw [ht] at h1 h2 h3
  have C1 := Lib.hid c1
  have C2 := Lib.hid c2
  have C3 := Lib.hid c3
  have C4 := Lib.hid c4
  have C5 := Lib.hid c5
  have hy0 : (y == 0) = false := beq_eq_false_iff_ne.2 hy
  have ht1 : -1000000000000000000 < t := by omega
  have ht2 : t < 1000000000000000000 := by omega
  clear c1 c2 c3 c4 c5 h2 h3 hf
  go_enter Tryz.func56, Tryz.ntmps56
  go_wp2
  · rename_i h
    rw [C1.out h]
    go_ret
    exact ⟨rfl, rfl⟩
  · rename_i hn h
    have hr : f = t + y := by
      by_cases ha : t < 0 <;> by_cases hb : y < 0 <;> simp [ha, hb] at h
      · exact C2.out ha (by omega)
      · exact C3.out (by omega) hb
    rw [hr]
    go_ret
    exact ⟨rfl, rfl⟩
  · rename_i hn h
    have hr : f = t := by
      by_cases ha : t < 0 <;> by_cases hb : y < 0 <;> simp [ha, hb, hn] at h
      · exact C4.out ha hb
      · exact C5.out (by omega) (by omega)
    rw [hr]
    go_ret
    exact ⟨rfl, rfl⟩
theorem gcd_step (a b : Int) : b.gcd (a.tmod b) = a.gcd b := by
  have h := Int.mul_tdiv_add_tmod a b
  have e : a.tmod b = a - b * a.tdiv b := by omega
  rw [e, Int.gcd_sub_mul_left_right, Int.gcd_comm]
/-- The call hands back an int64. -/
def GivesJ (z : Int) (w : World) (e : Ending) (w' : World) : Prop := e = .returned (.int .i64 z) ∧ Below w.heap.size w w'
set_option maxHeartbeats 400000 in
theorem gcdWord_any (x y : Int) (w : World) (hx1 : -1000000000000000000 < x) (hx2 : x < 1000000000000000000) (hy1 : -1000000000000000000 < y) (hy2 : y < 1000000000000000000) :
    Calls Tryz.prog 95 #[.int .i64 x, .int .i64 y] w (GivesJ (x.gcd y) w) := by
  go_enter Tryz.func95, Tryz.ntmps95
  go_wp2
  go_loopw [0, 1] (fun v u wr => ∃ a b : Int, v = .int .i64 a ∧ u = .int .i64 b ∧ a.gcd b = x.gcd y ∧ -1000000000000000000 < a ∧ a < 1000000000000000000 ∧ -1000000000000000000 < b ∧ b < 1000000000000000000 ∧ Below w.heap.size w wr) (fun _ u _ => (intOf u).natAbs)
  case atStart => exact ⟨x, y, rfl, rfl, rfl, hx1, hx2, hy1, hy2, Below.refl _ _⟩
  case round =>
    obtain ⟨a, b, rfl, rfl, hg, ha1, ha2, hb1, hb2, hbel⟩ := hrel
    have HG := Lib.hid hg
    have BEL := Lib.hid hbel
    clear hg hbel
    by_cases hb : b = 0
    · have hga : (x.gcd y : Int) = max a (-a) := by
        have := HG.out
        rw [hb, Int.gcd_zero_right] at this
        omega
      have HGA := Lib.hid hga
      clear hga
      go_wp2
      go_ret
      exact ⟨by rw [HGA.out]; rfl, BEL.out⟩
    · obtain ⟨t1, t2, t3, _⟩ := tmod_bd (x := a) hb
      have hst := gcd_step a b
      obtain ⟨t, ht⟩ : ∃ t, a.tmod b = t := ⟨_, rfl⟩
      rw [ht] at t1 t2 t3 hst
      have ST := Lib.hid (hst.trans HG.out)
      clear hst t2 t3
      have hb0 : (b == 0) = false := beq_eq_false_iff_ne.2 hb
      go_wp2
      go_region
      all_goals go_wp2
      all_goals go_roundw
      case rel => exact ⟨b, t, rfl, rfl, ST.out, hb1, hb2, by omega, by omega, BEL.out.drew⟩
      case measure => simp [intOf]; omega
end Go.Proofs.YtphbfjcaehiboaaGreatDoor
namespace Go.Proofs.YtphbfjcaehiboaaGreatDoor
open Go.RowKit

theorem alloc_below' (w : World) (o : Obj) : Below w.heap.size w (w.alloc o) := (Below.refl _ _).alloc (Nat.le_refl _) _
theorem cell2_new (w : World) (u v : Value) (t : TypeId) : (w.alloc (.cells #[u, v] t)).cell? ⟨w.heap.size, 0, none⟩ = some u ∧ (w.alloc (.cells #[u, v] t)).cell? ⟨w.heap.size, 1, none⟩ = some v := ⟨by rw [World.cell?_alloc_at _ _ _ _ rfl]; rfl, by rw [World.cell?_alloc_at _ _ _ _ rfl]; rfl⟩
/-- The call hands back no text and ErrArg. -/
def GivesEr (n : Int) (w : World) (e : Ending) (w' : World) : Prop := e = .returned (.tuple #[.string ⟨#[]⟩, .int .i64 n]) ∧ Below w.heap.size w w'
theorem combine_no1 (s : ByteArray) (t f : Value) (w : World) (hm : s.size ≤ 9223372036854775807) (h : isT s.data.toList = false) :
    Calls Tryz.prog 48 #[.string s, t, f] w (GivesEr 1 w) := by
  have HP := Lib.hid (parse_no s w hm h)
  clear h
  go_enter Tryz.func48, Tryz.ntmps48
  go_wp2_with fail
  refine HP.out.mono ?_
  rintro e w1 ⟨rfl, hb1⟩
  have B1 := Lib.hid hb1
  clear hb1
  go_wp2
  go_ret2
  exact ⟨rfl, B1.out.alloc B1.out.size _⟩
theorem combine_no2 (x : Int) (s : ByteArray) (f : Value) (w : World) (hx : dn x ≤ 1000) (hm : s.size ≤ 9223372036854775807) (h : isT s.data.toList = false) :
    Calls Tryz.prog 48 #[.string (tx x), .string s, f] w (GivesEr 1 w) := by
  have HP1 := Lib.hid (parse_tx x w hx)
  have HP2 := Lib.hid (fun W => parse_no s W hm h)
  obtain ⟨bx, hbx⟩ : ∃ bx, bx = decide (x < 0) := ⟨_, rfl⟩
  obtain ⟨X, hX⟩ : ∃ X, X = tx x := ⟨_, rfl⟩
  rw [← hX] at HP1 ⊢
  have HBX := Lib.hid hbx
  clear h hbx hX
  go_enter Tryz.func48, Tryz.ntmps48
  go_wp2_with fail
  refine HP1.out.mono ?_
  rintro e w1 ⟨v1, rfl, hv1, hb1⟩
  rw [← HBX.out]
  obtain ⟨a, n, rfl, hn, _, _, _, _⟩ := hv1.form
  have HN := Lib.hid hn
  have B2 := Lib.hid (hb1.alloc hb1.size (.cells #[.slice a n n, .bool bx] 66))
  clear hv1 hb1 hn
  go_wp2_with fail
  generalize w1.alloc (.cells #[.slice a n n, .bool bx] 66) = W2 at *
  refine (HP2.out W2).mono ?_
  rintro e w3 ⟨rfl, hb3⟩
  have B3 := Lib.hid (B2.out.trans (hb3.mono B2.out.size))
  clear hb3
  go_wp2
  go_ret2
  exact ⟨rfl, B3.out.alloc B3.out.size _⟩
theorem combine_plus (x y : Int) (w : World) (hx : dn x ≤ 1000) (hy : dn y ≤ 1000) :
    Calls Tryz.prog 48 #[.string (tx x), .string (tx y), .func (.func 49) #[] #[]] w (GivesX (x + y) w) := by
  have HP1 := Lib.hid (parse_tx x w hx)
  have HP2 := Lib.hid (fun W => parse_tx y W hy)
  have hx1 := nl_112 (x := (x.natAbs : Int)) (by omega) (by rw [dn_abs]; exact hx)
  have hy1 := nl_112 (x := (y.natAbs : Int)) (by omega) (by rw [dn_abs]; exact hy)
  have hop : ∀ W u v, NatV W u x.natAbs → NatV W v y.natAbs → Calls Tryz.prog 49 #[.agg #[u, .bool (decide (x < 0))], .agg #[v, .bool (decide (y < 0))]] W (GivesZ (x + y) W) := fun W u v hu hv => plus_any u v x y W hu hv (by omega) (by omega)
  have htx : ∀ W v s, s = decide (x + y < 0) → NatV W v (x + y).natAbs → Calls Tryz.prog 60 #[.agg #[v, .bool s]] W (GivesX (x + y) W) := fun W v s e h => by subst e; exact text_any v _ W h
  obtain ⟨bx, hbx⟩ : ∃ bx, bx = decide (x < 0) := ⟨_, rfl⟩
  obtain ⟨by', hby⟩ : ∃ by', by' = decide (y < 0) := ⟨_, rfl⟩
  obtain ⟨X, hX⟩ : ∃ X, X = tx x := ⟨_, rfl⟩
  obtain ⟨Y, hY⟩ : ∃ Y, Y = tx y := ⟨_, rfl⟩
  rw [← hX] at HP1 ⊢
  rw [← hY] at HP2 ⊢
  rw [← hbx, ← hby] at hop
  have OP := Lib.hid hop
  have TX := Lib.hid htx
  have HBX := Lib.hid hbx
  have HBY := Lib.hid hby
  clear hbx hby hX hY hop htx hx1 hy1
  go_enter Tryz.func48, Tryz.ntmps48
  go_wp2_with fail
  refine HP1.out.mono ?_
  rintro e w1 ⟨v1, rfl, hv1, hb1⟩
  rw [← HBX.out]
  obtain ⟨a, n, rfl, hn, _, _, _, _⟩ := hv1.form
  have HN := Lib.hid hn
  have B2 := Lib.hid (hb1.alloc hb1.size (.cells #[.slice a n n, .bool bx] 66))
  have C2 := Lib.hid (cell2_new w1 (.slice a n n) (.bool bx) 66)
  have N2 := Lib.hid (hv1.below (alloc_below' w1 (.cells #[.slice a n n, .bool bx] 66)))
  have hz2 : (w1.alloc (.cells #[.slice a n n, .bool bx] 66)).heap.size = w1.heap.size + 1 := by simp
  have Z2 := Lib.hid hz2
  obtain ⟨K1, hK1⟩ : ∃ K1, K1 = w1.heap.size := ⟨_, rfl⟩
  rw [← hK1] at C2 Z2
  clear hv1 hb1 hn hz2
  have HK1 := Lib.hid hK1
  clear hK1
  go_wp2_with fail
  rw [← HK1.out]
  generalize w1.alloc (.cells #[.slice a n n, .bool bx] 66) = W2 at *
  refine (HP2.out W2).mono ?_
  rintro e w3 ⟨v3, rfl, hv3, hb3⟩
  rw [← HBY.out]
  obtain ⟨c, m, rfl, hm, _, _, _, _⟩ := hv3.form
  have HM := Lib.hid hm
  have hb4 := hb3.alloc hb3.size (.cells #[.slice c m m, .bool by'] 66)
  have B4 := Lib.hid (B2.out.trans (hb4.mono B2.out.size))
  have C4 := Lib.hid (cell2_new w3 (.slice c m m) (.bool by') 66)
  have N4 := Lib.hid (hv3.below (alloc_below' w3 (.cells #[.slice c m m, .bool by'] 66)))
  have M4 := Lib.hid (N2.out.below hb4)
  have c0 := (below_at hb4 0 (show K1 < W2.heap.size by rw [Z2.out]; omega)).trans C2.out.1
  have c1 := (below_at hb4 1 (show K1 < W2.heap.size by rw [Z2.out]; omega)).trans C2.out.2
  have c2 := C4.out.1
  have c3 := C4.out.2
  obtain ⟨K3, hK3⟩ : ∃ K3, K3 = w3.heap.size := ⟨_, rfl⟩
  rw [← hK3] at c2 c3
  have HK3 := Lib.hid hK3
  clear hv3 hb3 hm hb4 C2 C4 hK3
  go_wp2_with fail
  rw [← HK3.out]
  generalize w3.alloc (.cells #[.slice c m m, .bool by'] 66) = W4 at *
  refine (OP.out W4 _ _ M4.out N4.out).mono ?_
  rintro e w5 ⟨v5, rfl, hv5, hb5⟩
  obtain ⟨s5, hs5⟩ : ∃ s5, s5 = decide ((x + y) < 0) := ⟨_, rfl⟩
  rw [← hs5]
  have S5 := Lib.hid hs5
  have B5 := Lib.hid (B4.out.trans (hb5.mono B4.out.size))
  obtain ⟨d, k, rfl, hk, _, _, _, _⟩ := hv5.form
  have HK := Lib.hid hk
  have N5 := Lib.hid hv5
  clear hs5 hb5 hk hv5 c0 c1 c2 c3
  go_wp2_with fail
  refine (TX.out w5 _ s5 S5.out N5.out).mono ?_
  rintro e w6 ⟨rfl, hb6⟩
  have B6 := Lib.hid (B5.out.trans (hb6.mono B5.out.size))
  obtain ⟨T, hT⟩ : ∃ T, T = (if dn (x + y) ≤ 1000 then tx (x + y) else ⟨#[]⟩) := ⟨_, rfl⟩
  obtain ⟨E, hE⟩ : ∃ E : Int, E = (if dn (x + y) ≤ 1000 then 0 else 3) := ⟨_, rfl⟩
  rw [← hT, ← hE]
  have HT := Lib.hid hT
  have HE := Lib.hid hE
  clear hT hE hb6
  go_wp2
  go_ret2
  exact ⟨by rw [← HT.out, ← HE.out]; rfl, B6.out⟩
theorem combine_less (x y : Int) (w : World) (hx : dn x ≤ 1000) (hy : dn y ≤ 1000) :
    Calls Tryz.prog 48 #[.string (tx x), .string (tx y), .func (.func 52) #[] #[]] w (GivesX (x - y) w) := by
  have HP1 := Lib.hid (parse_tx x w hx)
  have HP2 := Lib.hid (fun W => parse_tx y W hy)
  have hx1 := nl_112 (x := (x.natAbs : Int)) (by omega) (by rw [dn_abs]; exact hx)
  have hy1 := nl_112 (x := (y.natAbs : Int)) (by omega) (by rw [dn_abs]; exact hy)
  have hop : ∀ W u v, NatV W u x.natAbs → NatV W v y.natAbs → Calls Tryz.prog 52 #[.agg #[u, .bool (decide (x < 0))], .agg #[v, .bool (decide (y < 0))]] W (GivesZ (x - y) W) := fun W u v hu hv => less_any u v x y W hu hv (by omega) (by omega)
  have htx : ∀ W v s, s = decide (x - y < 0) → NatV W v (x - y).natAbs → Calls Tryz.prog 60 #[.agg #[v, .bool s]] W (GivesX (x - y) W) := fun W v s e h => by subst e; exact text_any v _ W h
  obtain ⟨bx, hbx⟩ : ∃ bx, bx = decide (x < 0) := ⟨_, rfl⟩
  obtain ⟨by', hby⟩ : ∃ by', by' = decide (y < 0) := ⟨_, rfl⟩
  obtain ⟨X, hX⟩ : ∃ X, X = tx x := ⟨_, rfl⟩
  obtain ⟨Y, hY⟩ : ∃ Y, Y = tx y := ⟨_, rfl⟩
  rw [← hX] at HP1 ⊢
  rw [← hY] at HP2 ⊢
  rw [← hbx, ← hby] at hop
  have OP := Lib.hid hop
  have TX := Lib.hid htx
  have HBX := Lib.hid hbx
  have HBY := Lib.hid hby
  clear hbx hby hX hY hop htx hx1 hy1
  go_enter Tryz.func48, Tryz.ntmps48
  go_wp2_with fail
  refine HP1.out.mono ?_
  rintro e w1 ⟨v1, rfl, hv1, hb1⟩
  rw [← HBX.out]
  obtain ⟨a, n, rfl, hn, _, _, _, _⟩ := hv1.form
  have HN := Lib.hid hn
  have B2 := Lib.hid (hb1.alloc hb1.size (.cells #[.slice a n n, .bool bx] 66))
  have C2 := Lib.hid (cell2_new w1 (.slice a n n) (.bool bx) 66)
  have N2 := Lib.hid (hv1.below (alloc_below' w1 (.cells #[.slice a n n, .bool bx] 66)))
  have hz2 : (w1.alloc (.cells #[.slice a n n, .bool bx] 66)).heap.size = w1.heap.size + 1 := by simp
  have Z2 := Lib.hid hz2
  obtain ⟨K1, hK1⟩ : ∃ K1, K1 = w1.heap.size := ⟨_, rfl⟩
  rw [← hK1] at C2 Z2
  clear hv1 hb1 hn hz2
  have HK1 := Lib.hid hK1
  clear hK1
  go_wp2_with fail
  rw [← HK1.out]
  generalize w1.alloc (.cells #[.slice a n n, .bool bx] 66) = W2 at *
  refine (HP2.out W2).mono ?_
  rintro e w3 ⟨v3, rfl, hv3, hb3⟩
  rw [← HBY.out]
  obtain ⟨c, m, rfl, hm, _, _, _, _⟩ := hv3.form
  have HM := Lib.hid hm
  have hb4 := hb3.alloc hb3.size (.cells #[.slice c m m, .bool by'] 66)
  have B4 := Lib.hid (B2.out.trans (hb4.mono B2.out.size))
  have C4 := Lib.hid (cell2_new w3 (.slice c m m) (.bool by') 66)
  have N4 := Lib.hid (hv3.below (alloc_below' w3 (.cells #[.slice c m m, .bool by'] 66)))
  have M4 := Lib.hid (N2.out.below hb4)
  have c0 := (below_at hb4 0 (show K1 < W2.heap.size by rw [Z2.out]; omega)).trans C2.out.1
  have c1 := (below_at hb4 1 (show K1 < W2.heap.size by rw [Z2.out]; omega)).trans C2.out.2
  have c2 := C4.out.1
  have c3 := C4.out.2
  obtain ⟨K3, hK3⟩ : ∃ K3, K3 = w3.heap.size := ⟨_, rfl⟩
  rw [← hK3] at c2 c3
  have HK3 := Lib.hid hK3
  clear hv3 hb3 hm hb4 C2 C4 hK3
  go_wp2_with fail
  rw [← HK3.out]
  generalize w3.alloc (.cells #[.slice c m m, .bool by'] 66) = W4 at *
  refine (OP.out W4 _ _ M4.out N4.out).mono ?_
  rintro e w5 ⟨v5, rfl, hv5, hb5⟩
  obtain ⟨s5, hs5⟩ : ∃ s5, s5 = decide ((x - y) < 0) := ⟨_, rfl⟩
  rw [← hs5]
  have S5 := Lib.hid hs5
  have B5 := Lib.hid (B4.out.trans (hb5.mono B4.out.size))
  obtain ⟨d, k, rfl, hk, _, _, _, _⟩ := hv5.form
  have HK := Lib.hid hk
  have N5 := Lib.hid hv5
  clear hs5 hb5 hk hv5 c0 c1 c2 c3
  go_wp2_with fail
  refine (TX.out w5 _ s5 S5.out N5.out).mono ?_
  rintro e w6 ⟨rfl, hb6⟩
  have B6 := Lib.hid (B5.out.trans (hb6.mono B5.out.size))
  obtain ⟨T, hT⟩ : ∃ T, T = (if dn (x - y) ≤ 1000 then tx (x - y) else ⟨#[]⟩) := ⟨_, rfl⟩
  obtain ⟨E, hE⟩ : ∃ E : Int, E = (if dn (x - y) ≤ 1000 then 0 else 3) := ⟨_, rfl⟩
  rw [← hT, ← hE]
  have HT := Lib.hid hT
  have HE := Lib.hid hE
  clear hT hE hb6
  go_wp2
  go_ret2
  exact ⟨by rw [← HT.out, ← HE.out]; rfl, B6.out⟩
theorem combine_times (x y : Int) (w : World) (hx : dn x ≤ 1000) (hy : dn y ≤ 1000) :
    Calls Tryz.prog 48 #[.string (tx x), .string (tx y), .func (.func 54) #[] #[]] w (GivesX (x * y) w) := by
  have HP1 := Lib.hid (parse_tx x w hx)
  have HP2 := Lib.hid (fun W => parse_tx y W hy)
  have hx1 := nl_112 (x := (x.natAbs : Int)) (by omega) (by rw [dn_abs]; exact hx)
  have hy1 := nl_112 (x := (y.natAbs : Int)) (by omega) (by rw [dn_abs]; exact hy)
  have hop : ∀ W u v, NatV W u x.natAbs → NatV W v y.natAbs → Calls Tryz.prog 54 #[.agg #[u, .bool (decide (x < 0))], .agg #[v, .bool (decide (y < 0))]] W (GivesZ (x * y) W) := fun W u v hu hv => times_any u v x y W hu hv (by omega) (by omega)
  have htx : ∀ W v s, s = decide (x * y < 0) → NatV W v (x * y).natAbs → Calls Tryz.prog 60 #[.agg #[v, .bool s]] W (GivesX (x * y) W) := fun W v s e h => by subst e; exact text_any v _ W h
  obtain ⟨bx, hbx⟩ : ∃ bx, bx = decide (x < 0) := ⟨_, rfl⟩
  obtain ⟨by', hby⟩ : ∃ by', by' = decide (y < 0) := ⟨_, rfl⟩
  obtain ⟨X, hX⟩ : ∃ X, X = tx x := ⟨_, rfl⟩
  obtain ⟨Y, hY⟩ : ∃ Y, Y = tx y := ⟨_, rfl⟩
  rw [← hX] at HP1 ⊢
  rw [← hY] at HP2 ⊢
  rw [← hbx, ← hby] at hop
  have OP := Lib.hid hop
  have TX := Lib.hid htx
  have HBX := Lib.hid hbx
  have HBY := Lib.hid hby
  clear hbx hby hX hY hop htx hx1 hy1
  go_enter Tryz.func48, Tryz.ntmps48
  go_wp2_with fail
  refine HP1.out.mono ?_
  rintro e w1 ⟨v1, rfl, hv1, hb1⟩
  rw [← HBX.out]
  obtain ⟨a, n, rfl, hn, _, _, _, _⟩ := hv1.form
  have HN := Lib.hid hn
  have B2 := Lib.hid (hb1.alloc hb1.size (.cells #[.slice a n n, .bool bx] 66))
  have C2 := Lib.hid (cell2_new w1 (.slice a n n) (.bool bx) 66)
  have N2 := Lib.hid (hv1.below (alloc_below' w1 (.cells #[.slice a n n, .bool bx] 66)))
  have hz2 : (w1.alloc (.cells #[.slice a n n, .bool bx] 66)).heap.size = w1.heap.size + 1 := by simp
  have Z2 := Lib.hid hz2
  obtain ⟨K1, hK1⟩ : ∃ K1, K1 = w1.heap.size := ⟨_, rfl⟩
  rw [← hK1] at C2 Z2
  clear hv1 hb1 hn hz2
  have HK1 := Lib.hid hK1
  clear hK1
  go_wp2_with fail
  rw [← HK1.out]
  generalize w1.alloc (.cells #[.slice a n n, .bool bx] 66) = W2 at *
  refine (HP2.out W2).mono ?_
  rintro e w3 ⟨v3, rfl, hv3, hb3⟩
  rw [← HBY.out]
  obtain ⟨c, m, rfl, hm, _, _, _, _⟩ := hv3.form
  have HM := Lib.hid hm
  have hb4 := hb3.alloc hb3.size (.cells #[.slice c m m, .bool by'] 66)
  have B4 := Lib.hid (B2.out.trans (hb4.mono B2.out.size))
  have C4 := Lib.hid (cell2_new w3 (.slice c m m) (.bool by') 66)
  have N4 := Lib.hid (hv3.below (alloc_below' w3 (.cells #[.slice c m m, .bool by'] 66)))
  have M4 := Lib.hid (N2.out.below hb4)
  have c0 := (below_at hb4 0 (show K1 < W2.heap.size by rw [Z2.out]; omega)).trans C2.out.1
  have c1 := (below_at hb4 1 (show K1 < W2.heap.size by rw [Z2.out]; omega)).trans C2.out.2
  have c2 := C4.out.1
  have c3 := C4.out.2
  obtain ⟨K3, hK3⟩ : ∃ K3, K3 = w3.heap.size := ⟨_, rfl⟩
  rw [← hK3] at c2 c3
  have HK3 := Lib.hid hK3
  clear hv3 hb3 hm hb4 C2 C4 hK3
  go_wp2_with fail
  rw [← HK3.out]
  generalize w3.alloc (.cells #[.slice c m m, .bool by'] 66) = W4 at *
  refine (OP.out W4 _ _ M4.out N4.out).mono ?_
  rintro e w5 ⟨v5, rfl, hv5, hb5⟩
  obtain ⟨s5, hs5⟩ : ∃ s5, s5 = decide ((x * y) < 0) := ⟨_, rfl⟩
  rw [← hs5]
  have S5 := Lib.hid hs5
  have B5 := Lib.hid (B4.out.trans (hb5.mono B4.out.size))
  obtain ⟨d, k, rfl, hk, _, _, _, _⟩ := hv5.form
  have HK := Lib.hid hk
  have N5 := Lib.hid hv5
  clear hs5 hb5 hk hv5 c0 c1 c2 c3
  go_wp2_with fail
  refine (TX.out w5 _ s5 S5.out N5.out).mono ?_
  rintro e w6 ⟨rfl, hb6⟩
  have B6 := Lib.hid (B5.out.trans (hb6.mono B5.out.size))
  obtain ⟨T, hT⟩ : ∃ T, T = (if dn (x * y) ≤ 1000 then tx (x * y) else ⟨#[]⟩) := ⟨_, rfl⟩
  obtain ⟨E, hE⟩ : ∃ E : Int, E = (if dn (x * y) ≤ 1000 then 0 else 3) := ⟨_, rfl⟩
  rw [← hT, ← hE]
  have HT := Lib.hid hT
  have HE := Lib.hid hE
  clear hT hE hb6
  go_wp2
  go_ret2
  exact ⟨by rw [← HT.out, ← HE.out]; rfl, B6.out⟩
end Go.Proofs.YtphbfjcaehiboaaGreatDoor
namespace Go.Proofs.YtphbfjcaehiboaaGreatDoor
open Go.RowKit

theorem dn_ge {x : Int} (h : x < Ten.bp 18) (h2 : -Ten.bp 18 < x) : dn x ≤ 18 := by
  by_cases h0 : x = 0
  · rw [h0, dn_zero]; omega
  · rw [← dn_abs, dn_ten (by omega)]; exact Ten.nl_le (by omega)
theorem bp18 : Ten.bp 18 = 1000000000000000000 := by unfold Ten.bp; decide
/-- A short text is a word. -/
theorem short_bd {x : Int} (h : (tx x).size ≤ 18) : -1000000000000000000 < x ∧ x < 1000000000000000000 := by
  have hts := tx_size x
  have hlt := dn_lt (x := (x.natAbs : Int)) (by omega)
  rw [dn_abs] at hlt
  have h1 := Ten.bp_mono (show dn x ≤ 18 by split at hts <;> omega)
  rw [bp18] at h1
  omega
theorem dn_word {x : Int} (h1 : -9223372036854775808 ≤ x) (h2 : x ≤ 9223372036854775807) : dn x ≤ 1000 := by
  have h3 : dn x ≤ 19 := by
    by_cases h0 : x = 0
    · rw [h0, dn_zero]; omega
    · rw [← dn_abs, dn_ten (by omega)]
      refine Ten.nl_le ?_
      have : Ten.bp 19 = 10000000000000000000 := by unfold Ten.bp; decide
      omega
  omega
theorem tx_le {x : Int} (h : dn x ≤ 1000) : (tx x).size ≤ 1001 := by have := tx_size x; split at this <;> omega
/-- What words returns for two integers. -/
theorem words_tx (x y : Int) (w : World) (hx : dn x ≤ 1000) (hy : dn y ≤ 1000) (hn : ¬ ((tx x).size ≤ 18 ∧ (tx y).size ≤ 18)) :
    ∃ a b, Calls Tryz.prog 47 #[.string (tx x), .string (tx y)] w (GivesWo2 a b false w) := by
  have h1 := tx_le hx
  have h2 := tx_le hy
  by_cases h : (tx x).size ≤ 18
  · exact ⟨x, 0, words_no2 x (tx y) w h (by omega) (.inl (by omega))⟩
  · exact ⟨0, 0, words_no1 (tx x) _ w (by omega) (.inl (by omega))⟩
theorem words_bad (s t : ByteArray) (w : World) (hs : s.size ≤ 9223372036854775807) (ht : t.size ≤ 9223372036854775807) (h : isT s.data.toList = false ∨ isT t.data.toList = false) :
    ∃ a b, Calls Tryz.prog 47 #[.string s, .string t] w (GivesWo2 a b false w) := by
  rcases tx_or s with ⟨x, rfl, hx⟩ | h1
  · have h2 : isT t.data.toList = false := by
      rcases h with h | h
      · rw [isT_tx hx] at h; cases h
      · exact h
    by_cases h3 : (tx x).size ≤ 18
    · exact ⟨x, 0, words_no2 x t w h3 ht (.inr h2)⟩
    · exact ⟨0, 0, words_no1 (tx x) _ w hs (.inl (by omega))⟩
  · exact ⟨0, 0, words_no1 s _ w hs (.inr h1)⟩
theorem combine_bad (s t : ByteArray) (f : Value) (w : World) (hs : s.size ≤ 9223372036854775807) (ht : t.size ≤ 9223372036854775807) (h : isT s.data.toList = false ∨ isT t.data.toList = false) :
    Calls Tryz.prog 48 #[.string s, .string t, f] w (GivesEr 1 w) := by
  rcases tx_or s with ⟨x, rfl, hx⟩ | h1
  · refine combine_no2 x t f w hx ht ?_
    rcases h with h | h
    · rw [isT_tx hx] at h; cases h
    · exact h
  · exact combine_no1 s _ f w hs h1
theorem Add_slow (x y : Int) (w : World) (hx : dn x ≤ 1000) (hy : dn y ≤ 1000) (hn : ¬ ((tx x).size ≤ 18 ∧ (tx y).size ≤ 18)) :
    Calls Tryz.prog 19 #[.string (tx x), .string (tx y)] w (GivesX (x + y) w) := by
  obtain ⟨a, b, hwd⟩ := words_tx x y w hx hy hn
  have WD := Lib.hid hwd
  have hcb := combine_plus x y w hx hy
  have CB := Lib.hid hcb
  obtain ⟨X, hX⟩ : ∃ X, X = tx x := ⟨_, rfl⟩
  obtain ⟨Y, hY⟩ : ∃ Y, Y = tx y := ⟨_, rfl⟩
  rw [← hX, ← hY] at WD CB ⊢
  clear hn
  clear hwd hcb hX hY
  go_enter Tryz.func19, Tryz.ntmps19
  go_wp2_with fail
  refine WD.out.mono ?_
  rintro e w' ⟨rfl, rfl⟩
  go_wp2_with fail
  refine CB.out.mono ?_
  rintro e w' ⟨rfl, hb⟩
  have HB := Lib.hid hb
  obtain ⟨T, hT⟩ : ∃ T, T = (if dn (x + y) ≤ 1000 then tx (x + y) else ⟨#[]⟩) := ⟨_, rfl⟩
  obtain ⟨E, hE⟩ : ∃ E : Int, E = (if dn (x + y) ≤ 1000 then 0 else 3) := ⟨_, rfl⟩
  rw [← hT, ← hE]
  clear hb
  have HT := Lib.hid hT
  have HE := Lib.hid hE
  clear hT hE
  go_wp2
  go_ret2
  exact ⟨by rw [← HT.out, ← HE.out]; rfl, HB.out⟩
theorem Add_fast (x y : Int) (w : World) (tb : Tb w) (h1 : (tx x).size ≤ 18) (h2 : (tx y).size ≤ 18) :
    Calls Tryz.prog 19 #[.string (tx x), .string (tx y)] w (GivesX (x + y) w) := by
  have hb : -2000000000000000000 < x + y ∧ x + y < 2000000000000000000 := by have := short_bd h1; have := short_bd h2; omega
  have h4 := short_bd h1
  have h5 := short_bd h2
  have hd : dn (x + y) ≤ 1000 := dn_word (by omega) (by omega)
  have WD := Lib.hid (words_yes x y w h1 h2)
  have hof := of_any (x + y) w tb (by omega) (by omega)
  have OF := Lib.hid hof
  unfold GivesX
  rw [if_pos hd, if_pos hd]
  obtain ⟨X, hX⟩ : ∃ X, X = tx x := ⟨_, rfl⟩
  obtain ⟨Y, hY⟩ : ∃ Y, Y = tx y := ⟨_, rfl⟩
  obtain ⟨T, hT⟩ : ∃ T, T = tx (x + y) := ⟨_, rfl⟩
  rw [← hT] at OF ⊢
  rw [← hX] at WD h1 ⊢
  rw [← hY] at WD h2 ⊢
  clear hof hX hY tb hd hT
  go_enter Tryz.func19, Tryz.ntmps19
  go_wp2_with fail
  refine WD.out.mono ?_
  rintro e w' ⟨rfl, rfl⟩
  go_wp2_with fail
  refine OF.out.mono ?_
  rintro e w' ⟨rfl, hb⟩
  have HB := Lib.hid hb
  clear hb
  go_wp2
  go_ret2
  exact ⟨rfl, HB.out⟩
theorem Add_tx (x y : Int) (w : World) (tb : Tb w) (hx : dn x ≤ 1000) (hy : dn y ≤ 1000) :
    Calls Tryz.prog 19 #[.string (tx x), .string (tx y)] w (GivesX (x + y) w) := by
  by_cases hn : (tx x).size ≤ 18 ∧ (tx y).size ≤ 18
  · exact Add_fast x y w tb hn.1 hn.2
  · exact Add_slow x y w hx hy hn
theorem Add_bad (s t : ByteArray) (w : World) (hs : s.size ≤ 9223372036854775807) (ht : t.size ≤ 9223372036854775807) (h : isT s.data.toList = false ∨ isT t.data.toList = false) :
    Calls Tryz.prog 19 #[.string s, .string t] w (GivesEr 1 w) := by
  obtain ⟨a, b, hwd⟩ := words_bad s t w hs ht h
  have WD := Lib.hid hwd
  have CB := Lib.hid (fun f => combine_bad s t f w hs ht h)
  clear hwd h
  go_enter Tryz.func19, Tryz.ntmps19
  go_wp2_with fail
  refine WD.out.mono ?_
  rintro e w' ⟨rfl, rfl⟩
  go_wp2_with fail
  refine (CB.out _).mono ?_
  rintro e w' ⟨rfl, hb⟩
  have HB := Lib.hid hb
  clear hb
  go_wp2
  go_ret2
  exact ⟨rfl, HB.out⟩
theorem Sub_slow (x y : Int) (w : World) (hx : dn x ≤ 1000) (hy : dn y ≤ 1000) (hn : ¬ ((tx x).size ≤ 18 ∧ (tx y).size ≤ 18)) :
    Calls Tryz.prog 21 #[.string (tx x), .string (tx y)] w (GivesX (x - y) w) := by
  obtain ⟨a, b, hwd⟩ := words_tx x y w hx hy hn
  have WD := Lib.hid hwd
  have hcb := combine_less x y w hx hy
  have CB := Lib.hid hcb
  obtain ⟨X, hX⟩ : ∃ X, X = tx x := ⟨_, rfl⟩
  obtain ⟨Y, hY⟩ : ∃ Y, Y = tx y := ⟨_, rfl⟩
  rw [← hX, ← hY] at WD CB ⊢
  clear hn
  clear hwd hcb hX hY
  go_enter Tryz.func21, Tryz.ntmps21
  go_wp2_with fail
  refine WD.out.mono ?_
  rintro e w' ⟨rfl, rfl⟩
  go_wp2_with fail
  refine CB.out.mono ?_
  rintro e w' ⟨rfl, hb⟩
  have HB := Lib.hid hb
  obtain ⟨T, hT⟩ : ∃ T, T = (if dn (x - y) ≤ 1000 then tx (x - y) else ⟨#[]⟩) := ⟨_, rfl⟩
  obtain ⟨E, hE⟩ : ∃ E : Int, E = (if dn (x - y) ≤ 1000 then 0 else 3) := ⟨_, rfl⟩
  rw [← hT, ← hE]
  clear hb
  have HT := Lib.hid hT
  have HE := Lib.hid hE
  clear hT hE
  go_wp2
  go_ret2
  exact ⟨by rw [← HT.out, ← HE.out]; rfl, HB.out⟩
theorem Sub_fast (x y : Int) (w : World) (tb : Tb w) (h1 : (tx x).size ≤ 18) (h2 : (tx y).size ≤ 18) :
    Calls Tryz.prog 21 #[.string (tx x), .string (tx y)] w (GivesX (x - y) w) := by
  have hb : -2000000000000000000 < x - y ∧ x - y < 2000000000000000000 := by have := short_bd h1; have := short_bd h2; omega
  have h4 := short_bd h1
  have h5 := short_bd h2
  have hd : dn (x - y) ≤ 1000 := dn_word (by omega) (by omega)
  have WD := Lib.hid (words_yes x y w h1 h2)
  have hof := of_any (x - y) w tb (by omega) (by omega)
  have OF := Lib.hid hof
  unfold GivesX
  rw [if_pos hd, if_pos hd]
  obtain ⟨X, hX⟩ : ∃ X, X = tx x := ⟨_, rfl⟩
  obtain ⟨Y, hY⟩ : ∃ Y, Y = tx y := ⟨_, rfl⟩
  obtain ⟨T, hT⟩ : ∃ T, T = tx (x - y) := ⟨_, rfl⟩
  rw [← hT] at OF ⊢
  rw [← hX] at WD h1 ⊢
  rw [← hY] at WD h2 ⊢
  clear hof hX hY tb hd hT
  go_enter Tryz.func21, Tryz.ntmps21
  go_wp2_with fail
  refine WD.out.mono ?_
  rintro e w' ⟨rfl, rfl⟩
  go_wp2_with fail
  refine OF.out.mono ?_
  rintro e w' ⟨rfl, hb⟩
  have HB := Lib.hid hb
  clear hb
  go_wp2
  go_ret2
  exact ⟨rfl, HB.out⟩
theorem Sub_tx (x y : Int) (w : World) (tb : Tb w) (hx : dn x ≤ 1000) (hy : dn y ≤ 1000) :
    Calls Tryz.prog 21 #[.string (tx x), .string (tx y)] w (GivesX (x - y) w) := by
  by_cases hn : (tx x).size ≤ 18 ∧ (tx y).size ≤ 18
  · exact Sub_fast x y w tb hn.1 hn.2
  · exact Sub_slow x y w hx hy hn
theorem Sub_bad (s t : ByteArray) (w : World) (hs : s.size ≤ 9223372036854775807) (ht : t.size ≤ 9223372036854775807) (h : isT s.data.toList = false ∨ isT t.data.toList = false) :
    Calls Tryz.prog 21 #[.string s, .string t] w (GivesEr 1 w) := by
  obtain ⟨a, b, hwd⟩ := words_bad s t w hs ht h
  have WD := Lib.hid hwd
  have CB := Lib.hid (fun f => combine_bad s t f w hs ht h)
  clear hwd h
  go_enter Tryz.func21, Tryz.ntmps21
  go_wp2_with fail
  refine WD.out.mono ?_
  rintro e w' ⟨rfl, rfl⟩
  go_wp2_with fail
  refine (CB.out _).mono ?_
  rintro e w' ⟨rfl, hb⟩
  have HB := Lib.hid hb
  clear hb
  go_wp2
  go_ret2
  exact ⟨rfl, HB.out⟩
theorem Mul_slow (x y : Int) (w : World) (hx : dn x ≤ 1000) (hy : dn y ≤ 1000) (hn : ¬ ((tx x).size ≤ 18 ∧ (tx y).size ≤ 18)) :
    Calls Tryz.prog 23 #[.string (tx x), .string (tx y)] w (GivesX (x * y) w) := by
  obtain ⟨a, b, hwd⟩ := words_tx x y w hx hy hn
  have WD := Lib.hid hwd
  have hcb := combine_times x y w hx hy
  have CB := Lib.hid hcb
  obtain ⟨X, hX⟩ : ∃ X, X = tx x := ⟨_, rfl⟩
  obtain ⟨Y, hY⟩ : ∃ Y, Y = tx y := ⟨_, rfl⟩
  rw [← hX, ← hY] at WD CB ⊢
  clear hn
  clear hwd hcb hX hY
  go_enter Tryz.func23, Tryz.ntmps23
  go_wp2_with fail
  refine WD.out.mono ?_
  rintro e w' ⟨rfl, rfl⟩
  go_wp2_with fail
  refine CB.out.mono ?_
  rintro e w' ⟨rfl, hb⟩
  have HB := Lib.hid hb
  obtain ⟨T, hT⟩ : ∃ T, T = (if dn (x * y) ≤ 1000 then tx (x * y) else ⟨#[]⟩) := ⟨_, rfl⟩
  obtain ⟨E, hE⟩ : ∃ E : Int, E = (if dn (x * y) ≤ 1000 then 0 else 3) := ⟨_, rfl⟩
  rw [← hT, ← hE]
  clear hb
  have HT := Lib.hid hT
  have HE := Lib.hid hE
  clear hT hE
  go_wp2
  go_ret2
  exact ⟨by rw [← HT.out, ← HE.out]; rfl, HB.out⟩
theorem Mul_mid (x y : Int) (w : World) (hx : dn x ≤ 1000) (hy : dn y ≤ 1000) (h1 : (tx x).size ≤ 18) (h2 : (tx y).size ≤ 18) (h3 : 18 < (tx x).size + (tx y).size) :
    Calls Tryz.prog 23 #[.string (tx x), .string (tx y)] w (GivesX (x * y) w) := by
  have hwd := words_yes x y w h1 h2
  have WD := Lib.hid hwd
  have hcb := combine_times x y w hx hy
  have CB := Lib.hid hcb
  obtain ⟨X, hX⟩ : ∃ X, X = tx x := ⟨_, rfl⟩
  obtain ⟨Y, hY⟩ : ∃ Y, Y = tx y := ⟨_, rfl⟩
  rw [← hX, ← hY] at WD CB ⊢
  rw [← hX] at h1 h3
  rw [← hY] at h2 h3
  clear hwd hcb hX hY
  go_enter Tryz.func23, Tryz.ntmps23
  go_wp2_with fail
  refine WD.out.mono ?_
  rintro e w' ⟨rfl, rfl⟩
  go_wp2_with fail
  refine CB.out.mono ?_
  rintro e w' ⟨rfl, hb⟩
  have HB := Lib.hid hb
  obtain ⟨T, hT⟩ : ∃ T, T = (if dn (x * y) ≤ 1000 then tx (x * y) else ⟨#[]⟩) := ⟨_, rfl⟩
  obtain ⟨E, hE⟩ : ∃ E : Int, E = (if dn (x * y) ≤ 1000 then 0 else 3) := ⟨_, rfl⟩
  rw [← hT, ← hE]
  clear hb
  have HT := Lib.hid hT
  have HE := Lib.hid hE
  clear hT hE
  go_wp2
  go_ret2
  exact ⟨by rw [← HT.out, ← HE.out]; rfl, HB.out⟩
theorem mul_word {x y : Int} (h3 : (tx x).size + (tx y).size ≤ 18) : -2000000000000000000 < x * y ∧ x * y < 2000000000000000000 := by
  have hx := tx_size x
  have hy := tx_size y
  have h1 := dn_lt (x := (x.natAbs : Int)) (by omega)
  have h2 := dn_lt (x := (y.natAbs : Int)) (by omega)
  rw [dn_abs] at h1 h2
  have h4 := Ten.mul_lt_bp (by omega) (by omega) h1 h2
  have h5 := Ten.bp_mono (show dn x + dn y ≤ 18 by split at hx <;> split at hy <;> omega)
  rw [bp18] at h5
  have h6 : ((x * y).natAbs : Int) = (x.natAbs : Int) * (y.natAbs : Int) := by rw [Int.natAbs_mul]; simp
  omega
theorem Mul_fast (x y : Int) (w : World) (tb : Tb w) (h1 : (tx x).size ≤ 18) (h2 : (tx y).size ≤ 18) (h3 : (tx x).size + (tx y).size ≤ 18) :
    Calls Tryz.prog 23 #[.string (tx x), .string (tx y)] w (GivesX (x * y) w) := by
  have hb := mul_word h3
  have h4 := short_bd h1
  have h5 := short_bd h2
  have hd : dn (x * y) ≤ 1000 := dn_word (by omega) (by omega)
  have WD := Lib.hid (words_yes x y w h1 h2)
  have hof := of_any (x * y) w tb (by omega) (by omega)
  have OF := Lib.hid hof
  unfold GivesX
  rw [if_pos hd, if_pos hd]
  obtain ⟨X, hX⟩ : ∃ X, X = tx x := ⟨_, rfl⟩
  obtain ⟨Y, hY⟩ : ∃ Y, Y = tx y := ⟨_, rfl⟩
  obtain ⟨T, hT⟩ : ∃ T, T = tx (x * y) := ⟨_, rfl⟩
  rw [← hT] at OF ⊢
  rw [← hX] at WD h1 h3 ⊢
  rw [← hY] at WD h2 h3 ⊢
  clear hof hX hY tb hd hT
  go_enter Tryz.func23, Tryz.ntmps23
  go_wp2_with fail
  refine WD.out.mono ?_
  rintro e w' ⟨rfl, rfl⟩
  go_wp2_with fail
  refine OF.out.mono ?_
  rintro e w' ⟨rfl, hb⟩
  have HB := Lib.hid hb
  clear hb
  go_wp2
  go_ret2
  exact ⟨rfl, HB.out⟩
theorem Mul_tx (x y : Int) (w : World) (tb : Tb w) (hx : dn x ≤ 1000) (hy : dn y ≤ 1000) :
    Calls Tryz.prog 23 #[.string (tx x), .string (tx y)] w (GivesX (x * y) w) := by
  by_cases hn : (tx x).size ≤ 18 ∧ (tx y).size ≤ 18
  · by_cases h3 : (tx x).size + (tx y).size ≤ 18
    · exact Mul_fast x y w tb hn.1 hn.2 h3
    · exact Mul_mid x y w hx hy hn.1 hn.2 (by omega)
  · exact Mul_slow x y w hx hy hn
theorem Mul_bad (s t : ByteArray) (w : World) (hs : s.size ≤ 9223372036854775807) (ht : t.size ≤ 9223372036854775807) (h : isT s.data.toList = false ∨ isT t.data.toList = false) :
    Calls Tryz.prog 23 #[.string s, .string t] w (GivesEr 1 w) := by
  obtain ⟨a, b, hwd⟩ := words_bad s t w hs ht h
  have WD := Lib.hid hwd
  have CB := Lib.hid (fun f => combine_bad s t f w hs ht h)
  clear hwd h
  go_enter Tryz.func23, Tryz.ntmps23
  go_wp2_with fail
  refine WD.out.mono ?_
  rintro e w' ⟨rfl, rfl⟩
  go_wp2_with fail
  refine (CB.out _).mono ?_
  rintro e w' ⟨rfl, hb⟩
  have HB := Lib.hid hb
  clear hb
  go_wp2
  go_ret2
  exact ⟨rfl, HB.out⟩
end Go.Proofs.YtphbfjcaehiboaaGreatDoor
namespace Go.Proofs.YtphbfjcaehiboaaGreatDoor
open Go.RowKit

theorem td48 (n : Nat) : ((td n).toList == [48]) = decide (n = 0) := by
  rw [Lib.toList_data, td_list]
  by_cases h : n = 0
  · subst h
    rw [decide_eq_true rfl]
    have h1 := (dec_head_48 0).2 rfl
    have h2 : (Lib.decDigits 0).length = 1 := by rw [Lib.decDigits_length]; exact Lib.nDigits_small (by omega)
    rw [beq_iff_eq]
    cases hd : Lib.decDigits 0 with
    | nil => rw [hd] at h2; cases h2
    | cons a l =>
      rw [hd] at h1 h2
      have : l = [] := List.length_eq_zero_iff.1 (by simpa using h2)
      rw [this]
      simp at h1
      rw [h1]
  · rw [decide_eq_false h, beq_eq_false_iff_ne]
    intro e
    apply h
    rw [← dec_head_48, e]
    rfl
/-- The sign of z. -/
def sg (z : Int) : Int := if z < 0 then -1 else if z = 0 then 0 else 1
/-- A minus before a text. -/
theorem tx_minus {z : Int} (h : 0 < z) : ((⟨#[45]⟩ : ByteArray) ++ tx z) = tx (-z) := by
  apply ba_ext
  rw [tx_list]
  simp only [ByteArray.data_append, Array.toList_append, tx_list]
  unfold Lib.itoa
  rw [if_neg (by omega), if_pos (by omega), show -z = -z from rfl]
  simp
  congr 1
  omega
theorem Sign_pos (z : Int) (w : World) (hz : dn z ≤ 1000) (hp : 0 < z) :
    Calls Tryz.prog 9 #[.string (tx z)] w fun e w' => e = .returned (.int .i64 (1)) ∧ w = w' := by
  have hsp := split_tx z w hz
  rw [decide_eq_false (by omega)] at hsp
  have h48 := td48 z.natAbs
  rw [decide_eq_false (by omega)] at h48
  obtain ⟨D, hD⟩ : ∃ D, D = td z.natAbs := ⟨_, rfl⟩
  obtain ⟨T, hT⟩ : ∃ T, T = tx z := ⟨_, rfl⟩
  rw [← hT, ← hD] at hsp
  rw [← hD] at h48
  rw [← hT]
  have SP := Lib.hid hsp
  clear hsp hD hT
  go_enter Tryz.func9, Tryz.ntmps9
  go_wp2_with fail
  refine SP.out.mono ?_
  rintro e w' ⟨rfl, rfl⟩
  go_wp2
  go_ret
  exact ⟨rfl, rfl⟩
theorem Sign_zero (z : Int) (w : World) (hz : dn z ≤ 1000) (hp : z = 0) :
    Calls Tryz.prog 9 #[.string (tx z)] w fun e w' => e = .returned (.int .i64 (0)) ∧ w = w' := by
  have hsp := split_tx z w hz
  rw [decide_eq_false (by omega)] at hsp
  have h48 := td48 z.natAbs
  rw [decide_eq_true (by omega)] at h48
  obtain ⟨D, hD⟩ : ∃ D, D = td z.natAbs := ⟨_, rfl⟩
  obtain ⟨T, hT⟩ : ∃ T, T = tx z := ⟨_, rfl⟩
  rw [← hT, ← hD] at hsp
  rw [← hD] at h48
  rw [← hT]
  have SP := Lib.hid hsp
  clear hsp hD hT
  go_enter Tryz.func9, Tryz.ntmps9
  go_wp2_with fail
  refine SP.out.mono ?_
  rintro e w' ⟨rfl, rfl⟩
  go_wp2
  go_ret
  exact ⟨rfl, rfl⟩
theorem Sign_neg (z : Int) (w : World) (hz : dn z ≤ 1000) (hp : z < 0) :
    Calls Tryz.prog 9 #[.string (tx z)] w fun e w' => e = .returned (.int .i64 (-1)) ∧ w = w' := by
  have hsp := split_tx z w hz
  rw [decide_eq_true (by omega)] at hsp
  have h48 := td48 z.natAbs
  rw [decide_eq_false (by omega)] at h48
  obtain ⟨D, hD⟩ : ∃ D, D = td z.natAbs := ⟨_, rfl⟩
  obtain ⟨T, hT⟩ : ∃ T, T = tx z := ⟨_, rfl⟩
  rw [← hT, ← hD] at hsp
  rw [← hD] at h48
  rw [← hT]
  have SP := Lib.hid hsp
  clear hsp hD hT
  go_enter Tryz.func9, Tryz.ntmps9
  go_wp2_with fail
  refine SP.out.mono ?_
  rintro e w' ⟨rfl, rfl⟩
  go_wp2
  go_ret
  exact ⟨rfl, rfl⟩
theorem Sign_tx (z : Int) (w : World) (hz : dn z ≤ 1000) : Calls Tryz.prog 9 #[.string (tx z)] w fun e w' => e = .returned (.int .i64 (sg z)) ∧ w = w' := by
  unfold sg
  by_cases h : z < 0
  · rw [if_pos h]; exact Sign_neg z w hz h
  · rw [if_neg h]
    by_cases h0 : z = 0
    · rw [if_pos h0]; exact Sign_zero z w hz h0
    · rw [if_neg h0]; exact Sign_pos z w hz (by omega)
theorem Neg_pos (z : Int) (w : World) (hz : dn z ≤ 1000) (hp : 0 < z) :
    Calls Tryz.prog 13 #[.string (tx z)] w fun e w' => e = .returned (.string (tx (-z))) ∧ w = w' := by
  have hsp := split_tx z w hz
  rw [decide_eq_false (by omega)] at hsp
  have h48 := td48 z.natAbs
  rw [decide_eq_false (by omega)] at h48
  rw [← tx_minus hp]
  have h9 : ¬ 9223372036854775807 < 1 + (tx z).size := by have := tx_le hz; omega
  obtain ⟨D, hD⟩ : ∃ D, D = td z.natAbs := ⟨_, rfl⟩
  obtain ⟨T, hT⟩ : ∃ T, T = tx z := ⟨_, rfl⟩
  rw [← hT, ← hD] at hsp
  rw [← hD] at h48
  rw [← hT] at h9 ⊢
  have SP := Lib.hid hsp
  clear hsp hD hT
  go_enter Tryz.func13, Tryz.ntmps13
  go_wp2_with fail
  refine SP.out.mono ?_
  rintro e w' ⟨rfl, rfl⟩
  go_wp2
  go_ret
  exact ⟨rfl, rfl⟩
theorem Neg_zero (z : Int) (w : World) (hz : dn z ≤ 1000) (hp : z = 0) :
    Calls Tryz.prog 13 #[.string (tx z)] w fun e w' => e = .returned (.string (tx (-z))) ∧ w = w' := by
  have hsp := split_tx z w hz
  rw [decide_eq_false (by omega)] at hsp
  have h48 := td48 z.natAbs
  rw [decide_eq_true (by omega)] at h48
  rw [show tx (-z) = td z.natAbs by rw [tx_pos (by omega), Int.natAbs_neg]]
  obtain ⟨D, hD⟩ : ∃ D, D = td z.natAbs := ⟨_, rfl⟩
  obtain ⟨T, hT⟩ : ∃ T, T = tx z := ⟨_, rfl⟩
  rw [← hT, ← hD] at hsp
  rw [← hD] at h48
  rw [← hT, ← hD]
  have SP := Lib.hid hsp
  clear hsp hD hT
  go_enter Tryz.func13, Tryz.ntmps13
  go_wp2_with fail
  refine SP.out.mono ?_
  rintro e w' ⟨rfl, rfl⟩
  go_wp2
  go_ret
  exact ⟨rfl, rfl⟩
theorem Neg_neg (z : Int) (w : World) (hz : dn z ≤ 1000) (hp : z < 0) :
    Calls Tryz.prog 13 #[.string (tx z)] w fun e w' => e = .returned (.string (tx (-z))) ∧ w = w' := by
  have hsp := split_tx z w hz
  rw [decide_eq_true (by omega)] at hsp
  have h48 := td48 z.natAbs
  rw [decide_eq_false (by omega)] at h48
  rw [show tx (-z) = td z.natAbs by rw [tx_pos (by omega), Int.natAbs_neg]]
  obtain ⟨D, hD⟩ : ∃ D, D = td z.natAbs := ⟨_, rfl⟩
  obtain ⟨T, hT⟩ : ∃ T, T = tx z := ⟨_, rfl⟩
  rw [← hT, ← hD] at hsp
  rw [← hD] at h48
  rw [← hT, ← hD]
  have SP := Lib.hid hsp
  clear hsp hD hT
  go_enter Tryz.func13, Tryz.ntmps13
  go_wp2_with fail
  refine SP.out.mono ?_
  rintro e w' ⟨rfl, rfl⟩
  go_wp2
  go_ret
  exact ⟨rfl, rfl⟩
theorem Neg_tx (z : Int) (w : World) (hz : dn z ≤ 1000) : Calls Tryz.prog 13 #[.string (tx z)] w fun e w' => e = .returned (.string (tx (-z))) ∧ w = w' := by
  rcases Int.lt_trichotomy z 0 with h | h | h
  · exact Neg_neg z w hz h
  · exact Neg_zero z w hz h
  · exact Neg_pos z w hz h
theorem Abs_tx (z : Int) (w : World) (hz : dn z ≤ 1000) : Calls Tryz.prog 15 #[.string (tx z)] w fun e w' => e = .returned (.string (tx z.natAbs)) ∧ w = w' := by
  have hsp := split_tx z w hz
  obtain ⟨b, hb⟩ : ∃ b, b = decide (z < 0) := ⟨_, rfl⟩
  rw [show tx (z.natAbs : Int) = td z.natAbs by rw [tx_pos (by omega)]; simp]
  obtain ⟨D, hD⟩ : ∃ D, D = td z.natAbs := ⟨_, rfl⟩
  obtain ⟨T, hT⟩ : ∃ T, T = tx z := ⟨_, rfl⟩
  rw [← hT, ← hD, ← hb] at hsp
  rw [← hT, ← hD]
  have SP := Lib.hid hsp
  clear hsp hD hT hb
  go_enter Tryz.func15, Tryz.ntmps15
  go_wp2_with fail
  refine SP.out.mono ?_
  rintro e w' ⟨rfl, rfl⟩
  go_wp2
  go_ret
  exact ⟨rfl, rfl⟩
theorem Valid_tx (z : Int) (w : World) (hz : dn z ≤ 1000) : Calls Tryz.prog 7 #[.string (tx z)] w fun e w' => e = .returned (.bool true) ∧ w = w' := by
  have hsp := split_tx z w hz
  obtain ⟨b, hb⟩ : ∃ b, b = decide (z < 0) := ⟨_, rfl⟩
  obtain ⟨D, hD⟩ : ∃ D, D = td z.natAbs := ⟨_, rfl⟩
  obtain ⟨T, hT⟩ : ∃ T, T = tx z := ⟨_, rfl⟩
  rw [← hT, ← hD, ← hb] at hsp
  rw [← hT]
  have SP := Lib.hid hsp
  clear hsp hD hT hb
  go_enter Tryz.func7, Tryz.ntmps7
  go_wp2_with fail
  refine SP.out.mono ?_
  rintro e w' ⟨rfl, rfl⟩
  go_wp2
  go_ret
  exact ⟨rfl, rfl⟩
theorem Sign_bad (s : ByteArray) (w : World) (hm : s.size ≤ 9223372036854775807) (h : isT s.data.toList = false) :
    Calls Tryz.prog 9 #[.string s] w fun e w' => e = .returned (.int .i64 0) ∧ w = w' := by
  have SP := Lib.hid (split_no s w hm h)
  clear h
  go_enter Tryz.func9, Tryz.ntmps9
  go_wp2_with fail
  refine SP.out.mono ?_
  rintro e w' ⟨rfl, rfl⟩
  go_wp2
  go_ret
  exact ⟨rfl, rfl⟩
theorem Neg_bad (s : ByteArray) (w : World) (hm : s.size ≤ 9223372036854775807) (h : isT s.data.toList = false) :
    Calls Tryz.prog 13 #[.string s] w fun e w' => e = .returned (.string ⟨#[]⟩) ∧ w = w' := by
  have SP := Lib.hid (split_no s w hm h)
  clear h
  go_enter Tryz.func13, Tryz.ntmps13
  go_wp2_with fail
  refine SP.out.mono ?_
  rintro e w' ⟨rfl, rfl⟩
  go_wp2
  go_ret
  exact ⟨rfl, rfl⟩
theorem Abs_bad (s : ByteArray) (w : World) (hm : s.size ≤ 9223372036854775807) (h : isT s.data.toList = false) :
    Calls Tryz.prog 15 #[.string s] w fun e w' => e = .returned (.string ⟨#[]⟩) ∧ w = w' := by
  have SP := Lib.hid (split_no s w hm h)
  clear h
  go_enter Tryz.func15, Tryz.ntmps15
  go_wp2_with fail
  refine SP.out.mono ?_
  rintro e w' ⟨rfl, rfl⟩
  go_wp2
  go_ret
  exact ⟨rfl, rfl⟩
theorem Valid_bad (s : ByteArray) (w : World) (hm : s.size ≤ 9223372036854775807) (h : isT s.data.toList = false) :
    Calls Tryz.prog 7 #[.string s] w fun e w' => e = .returned (.bool false) ∧ w = w' := by
  have SP := Lib.hid (split_no s w hm h)
  clear h
  go_enter Tryz.func7, Tryz.ntmps7
  go_wp2_with fail
  refine SP.out.mono ?_
  rintro e w' ⟨rfl, rfl⟩
  go_wp2
  go_ret
  exact ⟨rfl, rfl⟩
end Go.Proofs.YtphbfjcaehiboaaGreatDoor
namespace Go.Proofs.YtphbfjcaehiboaaGreatDoor
open Go.RowKit
open Go.Lib

theorem cb_cons (x y : UInt8) (a b : List UInt8) : compareBytes (x :: a) (y :: b) = if x < y then -1 else if y < x then 1 else compareBytes a b := rfl
theorem cb_snoc (c e : UInt8) : ∀ (a b : List UInt8), a.length = b.length → (compareBytes a b = 0 → compareBytes (a ++ [c]) (b ++ [e]) = compareBytes [c] [e]) ∧ (compareBytes a b ≠ 0 → compareBytes (a ++ [c]) (b ++ [e]) = compareBytes a b) := by
  intro a
  induction a with
  | nil =>
    intro b h
    cases b with
    | nil => exact ⟨fun _ => rfl, fun h => absurd rfl h⟩
    | cons _ _ => cases h
  | cons x a ih =>
    intro b h
    cases b with
    | nil => cases h
    | cons y b =>
      obtain ⟨i1, i2⟩ := ih b (by simpa using h)
      rw [List.cons_append, List.cons_append, cb_cons x y a b, cb_cons x y (a ++ [c]) (b ++ [e])]
      by_cases h1 : x < y
      · rw [if_pos h1, if_pos h1]; exact ⟨fun h => (by cases h), fun _ => rfl⟩
      · rw [if_neg h1, if_neg h1]
        by_cases h2 : y < x
        · rw [if_pos h2, if_pos h2]; exact ⟨fun h => (by cases h), fun _ => rfl⟩
        · rw [if_neg h2, if_neg h2]; exact ⟨i1, i2⟩
theorem cb_one (c e : UInt8) : compareBytes [c] [e] = cmp3 c.toNat e.toNat := by
  rw [cb_cons]
  rcases Nat.lt_trichotomy c.toNat e.toNat with h | h | h
  · rw [cmp3_lt (by omega), if_pos (UInt8.lt_iff_toNat_lt.2 h)]
  · have : c = e := UInt8.toNat_inj.1 h
    subst this
    have h1 : ¬ c < c := fun h => by have := UInt8.lt_iff_toNat_lt.1 h; omega
    rw [if_neg h1, if_neg h1, cmp3_eq]; rfl
  · have h1 : ¬ c < e := fun h2 => by have := UInt8.lt_iff_toNat_lt.1 h2; omega
    rw [if_neg h1, if_pos (UInt8.lt_iff_toNat_lt.2 h), cmp3_gt (by omega)]
theorem cb_vald : ∀ (n : Nat) (a b : List UInt8), a.length = n → b.length = n → (∀ c ∈ a, isDig c = true) → (∀ c ∈ b, isDig c = true) → compareBytes a b = cmp3 (vald a) (vald b) := by
  intro n
  induction n with
  | zero =>
    intro a b ha hb _ _
    rw [List.length_eq_zero_iff.1 ha, List.length_eq_zero_iff.1 hb]
    rw [cmp3_eq]
    rfl
  | succ n ih =>
    intro a b ha hb hda hdb
    rcases List.eq_nil_or_concat a with h | ⟨a', c, h⟩
    · subst h; cases ha
    rcases List.eq_nil_or_concat b with h2 | ⟨b', e, h2⟩
    · subst h2; cases hb
    rw [List.concat_eq_append] at h h2
    subst h h2
    rw [List.length_append, List.length_singleton] at ha hb
    have hc := hda c (by simp)
    have he := hdb e (by simp)
    unfold isDig at hc he
    simp at hc he
    obtain ⟨i1, i2⟩ := cb_snoc c e a' b' (by omega)
    have hi := ih a' b' (by omega) (by omega) (fun x hx => hda x (by simp [hx])) (fun x hx => hdb x (by simp [hx]))
    rw [vald_snoc, vald_snoc]
    rcases Nat.lt_trichotomy (vald a') (vald b') with h | h | h
    · rw [cmp3_lt (x := (vald a' : Int)) (by omega)] at hi
      rw [i2 (by omega), hi, cmp3_lt (by omega)]
    · rw [h, cmp3_eq] at hi
      rw [i1 hi, cb_one]
      rcases Nat.lt_trichotomy c.toNat e.toNat with h1 | h1 | h1
      · rw [cmp3_lt (by omega), cmp3_lt (by omega)]
      · rw [h1, h, cmp3_eq, cmp3_eq]
      · rw [cmp3_gt (by omega), cmp3_gt (by omega)]
    · rw [cmp3_gt (x := (vald a' : Int)) (by omega)] at hi
      rw [i2 (by omega), hi, cmp3_gt (by omega)]
theorem vald_dec (n : Nat) : vald (decDigits n) = n := by
  apply decDigits_inj
  refine dec_vald _ _ rfl (dec_ne n) (dec_all n) (fun h => ?_)
  rw [dec_head_48] at h
  rw [h, decDigits_length]
  exact nDigits_small (by omega)
theorem cb_td (m n : Nat) (h : (td m).size = (td n).size) : compareBytes (td m).data.toList (td n).data.toList = cmp3 m n := by
  rw [td_size, td_size] at h
  rw [td_list, td_list, cb_vald (nDigits m) _ _ (decDigits_length m) (by rw [decDigits_length, h]) (dec_all m) (dec_all n), vald_dec, vald_dec]
/-- More digits make the greater number. -/
theorem td_lt {m n : Nat} (h : (td m).size < (td n).size) : m < n := by
  rw [td_size, td_size] at h
  rcases Nat.lt_or_ge m n with h1 | h1
  · exact h1
  · have := dn_mono (x := (n : Int)) (y := (m : Int)) (by omega) (by omega)
    unfold dn at this
    simp at this
    omega
end Go.Proofs.YtphbfjcaehiboaaGreatDoor
namespace Go.Proofs.YtphbfjcaehiboaaGreatDoor
open Go.RowKit

theorem or_ne (g : Nat) (a b : Int) (w : World) (h0 : w.cell? ⟨g, 0, none⟩ = some (.int .i64 a)) (_h1 : w.cell? ⟨g, 1, none⟩ = some (.int .i64 b)) (ha : a ≠ 0) :
    Calls Tryz.prog 40 #[.slice (some ⟨g, 0, none⟩) 2 2] w fun e w' => e = .returned (.int .i64 a) ∧ w = w' := by
  have hb : (a != 0) = true := bne_iff_ne.2 ha
  go_enter Tryz.func40, Tryz.ntmps40
  go_wp2
  go_loop [8] (fun i => i = .int .i64 0) (fun _ => 0)
  case atStart => rfl
  case round =>
    obtain rfl := hrel
    go_wp2
    go_ret
    exact ⟨rfl, rfl⟩
theorem or_zero (g : Nat) (b : Int) (w : World) (h0 : w.cell? ⟨g, 0, none⟩ = some (.int .i64 0)) (h1 : w.cell? ⟨g, 1, none⟩ = some (.int .i64 b)) :
    Calls Tryz.prog 40 #[.slice (some ⟨g, 0, none⟩) 2 2] w fun e w' => e = .returned (.int .i64 b) ∧ w = w' := by
  go_enter Tryz.func40, Tryz.ntmps40
  go_wp2
  go_loop [8] (fun i => i = .int .i64 0 ∨ i = .int .i64 1 ∨ (i = .int .i64 2 ∧ b = 0)) (fun i => 2 - (intOf i).toNat)
  case atStart => exact .inl rfl
  case round =>
    rcases hrel with rfl | rfl | ⟨rfl, hb⟩
    · go_wp2
      go_round
      case rel => exact .inr (.inl rfl)
      case measure => simp [intOf]
    · by_cases hb : b = 0
      · subst hb
        go_wp2
        go_round
        case rel => exact .inr (.inr ⟨rfl, trivial⟩)
        case measure => simp [intOf]
      · have hb2 : (b != 0) = true := bne_iff_ne.2 hb
        go_wp2
        go_ret
        exact ⟨rfl, rfl⟩
    · subst hb
      go_wp2
      go_ret
      exact ⟨rfl, rfl⟩
/-- What Or returns of two numbers. -/
theorem or_any (g : Nat) (a b : Int) (w : World) (h0 : w.cell? ⟨g, 0, none⟩ = some (.int .i64 a)) (h1 : w.cell? ⟨g, 1, none⟩ = some (.int .i64 b)) :
    Calls Tryz.prog 40 #[.slice (some ⟨g, 0, none⟩) 2 2] w fun e w' => e = .returned (.int .i64 (if a = 0 then b else a)) ∧ w = w' := by
  by_cases ha : a = 0
  · rw [if_pos ha]; subst ha; exact or_zero g b w h0 h1
  · rw [if_neg ha]; exact or_ne g a b w h0 h1 ha
theorem cmp_td (m n : Nat) : (if cmp3 (td m).size (td n).size = 0 then Lib.compareBytes (td m).data.toList (td n).data.toList else cmp3 (td m).size (td n).size) = cmp3 m n := by
  rcases Nat.lt_trichotomy (td m).size (td n).size with h | h | h
  · rw [cmp3_lt (by omega), if_neg (by omega), cmp3_lt (by have := td_lt h; omega)]
  · rw [h, cmp3_eq, if_pos rfl, cb_td m n h]
  · rw [cmp3_gt (by omega), if_neg (by omega), cmp3_gt (by have := td_lt h; omega)]
theorem Cmp_ft (x y : Int) (w : World) (hx : dn x ≤ 1000) (hy : dn y ≤ 1000) (hsx : decide (x < 0) = false) (hsy : decide (y < 0) = true) :
    Calls Tryz.prog 11 #[.string (tx x), .string (tx y)] w (GivesJ (1) w) := by
  have hs1 := split_tx x w hx
  have hs2 := split_tx y w hy
  rw [hsx] at hs1
  rw [hsy] at hs2
  obtain ⟨D, hD⟩ : ∃ D, D = td x.natAbs := ⟨_, rfl⟩
  obtain ⟨E, hE⟩ : ∃ E, E = td y.natAbs := ⟨_, rfl⟩
  obtain ⟨X, hX⟩ : ∃ X, X = tx x := ⟨_, rfl⟩
  obtain ⟨Y, hY⟩ : ∃ Y, Y = tx y := ⟨_, rfl⟩
  rw [← hX, ← hD] at hs1
  rw [← hY, ← hE] at hs2
  rw [← hX, ← hY]
  have S1 := Lib.hid hs1
  have S2 := Lib.hid hs2
  clear hs1 hs2 hsx hsy hX hY hD hE
  go_enter Tryz.func11, Tryz.ntmps11
  go_wp2_with fail
  refine S1.out.mono ?_
  rintro e w' ⟨rfl, rfl⟩
  go_wp2_with fail
  refine S2.out.mono ?_
  rintro e w' ⟨rfl, rfl⟩
  go_wp2
  go_ret
  exact ⟨rfl, Below.refl _ _⟩
theorem Cmp_tf (x y : Int) (w : World) (hx : dn x ≤ 1000) (hy : dn y ≤ 1000) (hsx : decide (x < 0) = true) (hsy : decide (y < 0) = false) :
    Calls Tryz.prog 11 #[.string (tx x), .string (tx y)] w (GivesJ (-1) w) := by
  have hs1 := split_tx x w hx
  have hs2 := split_tx y w hy
  rw [hsx] at hs1
  rw [hsy] at hs2
  obtain ⟨D, hD⟩ : ∃ D, D = td x.natAbs := ⟨_, rfl⟩
  obtain ⟨E, hE⟩ : ∃ E, E = td y.natAbs := ⟨_, rfl⟩
  obtain ⟨X, hX⟩ : ∃ X, X = tx x := ⟨_, rfl⟩
  obtain ⟨Y, hY⟩ : ∃ Y, Y = tx y := ⟨_, rfl⟩
  rw [← hX, ← hD] at hs1
  rw [← hY, ← hE] at hs2
  rw [← hX, ← hY]
  have S1 := Lib.hid hs1
  have S2 := Lib.hid hs2
  clear hs1 hs2 hsx hsy hX hY hD hE
  go_enter Tryz.func11, Tryz.ntmps11
  go_wp2_with fail
  refine S1.out.mono ?_
  rintro e w' ⟨rfl, rfl⟩
  go_wp2_with fail
  refine S2.out.mono ?_
  rintro e w' ⟨rfl, rfl⟩
  go_wp2
  go_ret
  exact ⟨rfl, Below.refl _ _⟩
theorem Cmp_ff (x y : Int) (w : World) (hx : dn x ≤ 1000) (hy : dn y ≤ 1000) (hsx : decide (x < 0) = false) (hsy : decide (y < 0) = false) :
    Calls Tryz.prog 11 #[.string (tx x), .string (tx y)] w (GivesJ (cmp3 (x.natAbs : Int) (y.natAbs : Int)) w) := by
  have hs1 := split_tx x w hx
  have hs2 := split_tx y w hy
  rw [hsx] at hs1
  rw [hsy] at hs2
  have hcm := cmp_td x.natAbs y.natAbs
  have hd1 : (td x.natAbs).size ≤ 1000 := by rw [td_size]; exact hx
  have hd2 : (td y.natAbs).size ≤ 1000 := by rw [td_size]; exact hy
  obtain ⟨D, hD⟩ : ∃ D, D = td x.natAbs := ⟨_, rfl⟩
  obtain ⟨E, hE⟩ : ∃ E, E = td y.natAbs := ⟨_, rfl⟩
  obtain ⟨X, hX⟩ : ∃ X, X = tx x := ⟨_, rfl⟩
  obtain ⟨Y, hY⟩ : ∃ Y, Y = tx y := ⟨_, rfl⟩
  rw [← hX, ← hD] at hs1
  rw [← hY, ← hE] at hs2
  rw [← hX, ← hY]
  rw [← hD, ← hE] at hcm
  rw [← hD] at hd1
  rw [← hE] at hd2
  obtain ⟨c, hc⟩ : ∃ c, c = Lib.compareBytes D.data.toList E.data.toList := ⟨_, rfl⟩
  obtain ⟨d, hd⟩ : ∃ d, d = cmp3 (D.size : Int) (E.size : Int) := ⟨_, rfl⟩
  obtain ⟨r, hr⟩ : ∃ r, r = cmp3 (x.natAbs : Int) (y.natAbs : Int) := ⟨_, rfl⟩
  have hr1 : -1 ≤ r ∧ r ≤ 1 := by rw [hr]; unfold cmp3; split <;> (first | omega | (split <;> omega))
  rw [← hd, ← hc, ← hr] at hcm
  rw [← hr]
  have hsc := Tryz.strings_Compare D E w
  rw [← hc] at hsc
  have hci := cmpI_any (D.size : Int) (E.size : Int) w
  rw [← hd] at hci
  have hor := fun g W h0 h1 => or_any g d c W h0 h1
  rw [hcm] at hor
  have SC := Lib.hid hsc
  have CI := Lib.hid hci
  have OR := Lib.hid hor
  have NW := Lib.hid (cell2_new w (.int .i64 d) (.int .i64 c) 3)
  have B0 := Lib.hid (alloc_below' w (.cells #[.int .i64 d, .int .i64 c] 3))
  clear hcm hc hd hsc hci hor hr
  have S1 := Lib.hid hs1
  have S2 := Lib.hid hs2
  clear hs1 hs2 hsx hsy hX hY hD hE
  go_enter Tryz.func11, Tryz.ntmps11
  go_wp2_with fail
  refine S1.out.mono ?_
  rintro e w' ⟨rfl, rfl⟩
  go_wp2_with fail
  refine S2.out.mono ?_
  rintro e w' ⟨rfl, rfl⟩
  go_wp2_with fail
  refine CI.out.mono ?_
  rintro e w' ⟨rfl, rfl⟩
  go_wp2_with fail
  refine SC.out.mono ?_
  rintro e w' ⟨rfl, rfl⟩
  go_wp2_with fail
  refine (OR.out _ _ NW.out.1 NW.out.2).mono ?_
  rintro e w' ⟨rfl, rfl⟩
  go_wp2
  go_ret
  exact ⟨rfl, B0.out⟩
theorem Cmp_tt (x y : Int) (w : World) (hx : dn x ≤ 1000) (hy : dn y ≤ 1000) (hsx : decide (x < 0) = true) (hsy : decide (y < 0) = true) :
    Calls Tryz.prog 11 #[.string (tx x), .string (tx y)] w (GivesJ (-cmp3 (x.natAbs : Int) (y.natAbs : Int)) w) := by
  have hs1 := split_tx x w hx
  have hs2 := split_tx y w hy
  rw [hsx] at hs1
  rw [hsy] at hs2
  have hcm := cmp_td x.natAbs y.natAbs
  have hd1 : (td x.natAbs).size ≤ 1000 := by rw [td_size]; exact hx
  have hd2 : (td y.natAbs).size ≤ 1000 := by rw [td_size]; exact hy
  obtain ⟨D, hD⟩ : ∃ D, D = td x.natAbs := ⟨_, rfl⟩
  obtain ⟨E, hE⟩ : ∃ E, E = td y.natAbs := ⟨_, rfl⟩
  obtain ⟨X, hX⟩ : ∃ X, X = tx x := ⟨_, rfl⟩
  obtain ⟨Y, hY⟩ : ∃ Y, Y = tx y := ⟨_, rfl⟩
  rw [← hX, ← hD] at hs1
  rw [← hY, ← hE] at hs2
  rw [← hX, ← hY]
  rw [← hD, ← hE] at hcm
  rw [← hD] at hd1
  rw [← hE] at hd2
  obtain ⟨c, hc⟩ : ∃ c, c = Lib.compareBytes D.data.toList E.data.toList := ⟨_, rfl⟩
  obtain ⟨d, hd⟩ : ∃ d, d = cmp3 (D.size : Int) (E.size : Int) := ⟨_, rfl⟩
  obtain ⟨r, hr⟩ : ∃ r, r = cmp3 (x.natAbs : Int) (y.natAbs : Int) := ⟨_, rfl⟩
  have hr1 : -1 ≤ r ∧ r ≤ 1 := by rw [hr]; unfold cmp3; split <;> (first | omega | (split <;> omega))
  rw [← hd, ← hc, ← hr] at hcm
  rw [← hr]
  have hsc := Tryz.strings_Compare D E w
  rw [← hc] at hsc
  have hci := cmpI_any (D.size : Int) (E.size : Int) w
  rw [← hd] at hci
  have hor := fun g W h0 h1 => or_any g d c W h0 h1
  rw [hcm] at hor
  have SC := Lib.hid hsc
  have CI := Lib.hid hci
  have OR := Lib.hid hor
  have NW := Lib.hid (cell2_new w (.int .i64 d) (.int .i64 c) 3)
  have B0 := Lib.hid (alloc_below' w (.cells #[.int .i64 d, .int .i64 c] 3))
  clear hcm hc hd hsc hci hor hr
  have S1 := Lib.hid hs1
  have S2 := Lib.hid hs2
  clear hs1 hs2 hsx hsy hX hY hD hE
  go_enter Tryz.func11, Tryz.ntmps11
  go_wp2_with fail
  refine S1.out.mono ?_
  rintro e w' ⟨rfl, rfl⟩
  go_wp2_with fail
  refine S2.out.mono ?_
  rintro e w' ⟨rfl, rfl⟩
  go_wp2_with fail
  refine CI.out.mono ?_
  rintro e w' ⟨rfl, rfl⟩
  go_wp2_with fail
  refine SC.out.mono ?_
  rintro e w' ⟨rfl, rfl⟩
  go_wp2_with fail
  refine (OR.out _ _ NW.out.1 NW.out.2).mono ?_
  rintro e w' ⟨rfl, rfl⟩
  go_wp2
  go_ret
  exact ⟨rfl, B0.out⟩
theorem Cmp_tx (x y : Int) (w : World) (hx : dn x ≤ 1000) (hy : dn y ≤ 1000) :
    Calls Tryz.prog 11 #[.string (tx x), .string (tx y)] w (GivesJ (cmp3 x y) w) := by
  by_cases h1 : x < 0 <;> by_cases h2 : y < 0
  · have := Cmp_tt x y w hx hy (decide_eq_true h1) (decide_eq_true h2)
    rwa [show -cmp3 (x.natAbs : Int) (y.natAbs : Int) = cmp3 x y by
      rcases Int.lt_trichotomy x y with h | h | h
      · rw [cmp3_lt h, cmp3_gt (by omega)]
      · rw [h, cmp3_eq, cmp3_eq]; rfl
      · rw [cmp3_gt h, cmp3_lt (by omega)]; rfl] at this
  · rw [cmp3_lt (by omega)]; exact Cmp_tf x y w hx hy (decide_eq_true h1) (decide_eq_false h2)
  · rw [cmp3_gt (by omega)]; exact Cmp_ft x y w hx hy (decide_eq_false h1) (decide_eq_true h2)
  · have := Cmp_ff x y w hx hy (decide_eq_false h1) (decide_eq_false h2)
    rwa [show (x.natAbs : Int) = x by omega, show (y.natAbs : Int) = y by omega] at this
theorem Cmp_bad1 (s t : ByteArray) (w : World) (hs : s.size ≤ 9223372036854775807) (ht : t.size ≤ 9223372036854775807) (h : isT s.data.toList = false) :
    Calls Tryz.prog 11 #[.string s, .string t] w (GivesJ 0 w) := by
  have S1 := Lib.hid (split_no s w hs h)
  have hs2 : ∃ b D k, Calls Tryz.prog 37 #[.string t] w (GivesS b D k w) := by
    rcases tx_or t with ⟨y, rfl, hy⟩ | h1
    · exact ⟨_, _, _, split_tx y w hy⟩
    · exact ⟨_, _, _, split_no t w ht h1⟩
  obtain ⟨b, D, k, hs2⟩ := hs2
  have S2 := Lib.hid hs2
  clear hs2 h
  go_enter Tryz.func11, Tryz.ntmps11
  go_wp2_with fail
  refine S1.out.mono ?_
  rintro e w' ⟨rfl, rfl⟩
  go_wp2_with fail
  refine S2.out.mono ?_
  rintro e w' ⟨rfl, rfl⟩
  go_wp2
  go_ret
  exact ⟨rfl, Below.refl _ _⟩
theorem Cmp_bad2 (x : Int) (t : ByteArray) (w : World) (hx : dn x ≤ 1000) (ht : t.size ≤ 9223372036854775807) (h : isT t.data.toList = false) :
    Calls Tryz.prog 11 #[.string (tx x), .string t] w (GivesJ 0 w) := by
  have hs1 := split_tx x w hx
  obtain ⟨b, hb⟩ : ∃ b, b = decide (x < 0) := ⟨_, rfl⟩
  obtain ⟨D, hD⟩ : ∃ D, D = td x.natAbs := ⟨_, rfl⟩
  obtain ⟨X, hX⟩ : ∃ X, X = tx x := ⟨_, rfl⟩
  rw [← hX, ← hD, ← hb] at hs1
  rw [← hX]
  have S1 := Lib.hid hs1
  have S2 := Lib.hid (split_no t w ht h)
  clear h hs1 hX hD hb
  go_enter Tryz.func11, Tryz.ntmps11
  go_wp2_with fail
  refine S1.out.mono ?_
  rintro e w' ⟨rfl, rfl⟩
  go_wp2_with fail
  refine S2.out.mono ?_
  rintro e w' ⟨rfl, rfl⟩
  go_wp2
  go_ret
  exact ⟨rfl, Below.refl _ _⟩
end Go.Proofs.YtphbfjcaehiboaaGreatDoor
namespace Go.Proofs.YtphbfjcaehiboaaGreatDoor
open Go.RowKit

theorem is_any (s t : ByteArray) (n : Int) (w : World) :
    Calls Tryz.prog 68 #[.string s, .int .i64 n, .string t] w fun e w' => e = .returned (.bool (decide (s = t) && decide (n = 0))) ∧ w = w' := by
  have hst : (s.toList == t.toList) = decide (s = t) := by
    rw [Lib.toList_data, Lib.toList_data]
    by_cases h : s = t
    · subst h; rw [decide_eq_true rfl, beq_iff_eq]
    · rw [decide_eq_false h, beq_eq_false_iff_ne]
      intro e
      exact h (ba_ext e)
  cases hd : decide (s = t)
  · rw [hd] at hst
    clear hd
    go_enter Tryz.func68, Tryz.ntmps68
    go_wp2
    go_ret
    exact ⟨rfl, rfl⟩
  · rw [hd] at hst
    clear hd
    by_cases hn : n = 0
    · have hb : (n == 0) = true := beq_iff_eq.2 hn
      rw [decide_eq_true hn]
      clear hn
      go_enter Tryz.func68, Tryz.ntmps68
      go_wp2
      go_ret
      exact ⟨rfl, rfl⟩
    · have hb : (n == 0) = false := beq_eq_false_iff_ne.2 hn
      rw [decide_eq_false hn]
      clear hn
      go_enter Tryz.func68, Tryz.ntmps68
      go_wp2
      go_ret
      exact ⟨rfl, rfl⟩
end Go.Proofs.YtphbfjcaehiboaaGreatDoor
