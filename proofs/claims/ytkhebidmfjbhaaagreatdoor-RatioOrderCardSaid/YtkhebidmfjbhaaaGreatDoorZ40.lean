/-
  What the reference's Fit returns: an integer of at most so many digits.
  What the reference of layer 3 returns: Reduced, Fit.
  What the laws' helpers sum and product return.
  What the order's functions return for numbers, by how the numbers lie.
-/
import Derived.Test.YtkhebidmfjbhaaaGreatDoorZ25
import Derived.Test.YtkhebidmfjbhaaaGreatDoorZ38
import Derived.Test.YtkhebidmfjbhaaaGreatDoorZ39
import Derived.Deep.RegionHeld3
import Derived.Deep.Cut
namespace Go.Proofs.YtkhebidmfjbhaaaGreatDoor
open Go.RowKit

set_option maxHeartbeats 2000000 in
set_option maxRecDepth 100000 in
theorem fit_any (s : ByteArray) (most : Nat) (w : World) (hs : s.size ≤ 9223372036854775807) (h1 : 1 ≤ most) (h2 : most ≤ 1000) :
    Calls Tryz.prog 128 #[.string s, .int .i64 most] w (fun e w' => ∃ z, dn z ≤ most ∧ GivesY (tx z) w e w') := by
  obtain ⟨i0, hi, hz0, hz1, hz2⟩ := info_parts infoI64
  have hown0 : w.ownsRow w.heap.size 3 1 (.slice none 0 0) ([] : List Nat).length (vals []) := World.ownsRow_nil _ _ _ _
  go_enter Tryz.func128, Tryz.ntmps128
  go_wp2_with fail
  go_loopw [5, 6] (fun v i wr => ∃ (j : Nat) (l : List Nat), j ≤ s.size ∧ i = .int .i64 j ∧ Hid (∀ d, d ∈ l → d < 10) ∧ l.length ≤ most ∧ wr.ownsRow w.heap.size 3 1 v l.length (vals l) ∧ Below w.heap.size w wr) (fun _ i _ => s.size - (intOf i).toNat)
  case atStart => exact ⟨0, [], by omega, rfl, Lib.hid (fun d hd => by cases hd), by simp, hown0, Below.refl _ _⟩
  case round =>
    clear hown0
    obtain ⟨j, l, hj, rfl, HD, hl, hown, hb⟩ := hrel
    have hws := hb.size
    obtain ⟨n, hn⟩ : ∃ n, n = l.length := ⟨_, rfl⟩
    have HN := Lib.hid hn
    obtain ⟨a, c, hv, hc, hrow⟩ := rowD_of_own hown HD.out
    subst hv
    rw [← hn] at hown hl hc hrow ⊢
    have HR := Lib.hid hrow
    have hTX : ∃ (F : Bool → ByteArray) (Z : Bool → Int), ∀ b, F b = tx (Z b) ∧ dn (Z b) ≤ most ∧ Calls Tryz.prog 146 #[.bool b, .slice a n c] wr (GivesY (F b) wr) := by
      obtain ⟨z0, z1⟩ := dv_bd l HD.out
      rw [← hn] at z1
      refine ⟨fun b => tx (if b = true then -dv l else dv l), fun b => if b = true then -dv l else dv l, fun b => ⟨rfl, ?_, rtext_any b a n c (dv l) wr z0 z1 hc (by omega) hrow⟩⟩
      have h3 : dn (dv l) ≤ most := dn_le z0 h1 (Int.lt_of_lt_of_le z1 (Ten.bp_mono hl))
      show dn (if b = true then -dv l else dv l) ≤ most
      split
      · rw [dn_neg]; exact h3
      · exact h3
    obtain ⟨F, Z, hTX⟩ := hTX
    have TX := Lib.hid hTX
    clear hn hrow hTX
    by_cases hlt : j < s.size
    · by_cases hln : n < most
      · by_cases hlo : 48 ≤ ((s[j]'hlt).toNat : Int)
        · by_cases hhi : ((s[j]'hlt).toNat : Int) ≤ 57
          · have HS := Lib.hid (vals_snoc l ((s[j]'hlt).toNat - 48))
            have hdd : ((s[j]'hlt).toNat : Int) - 48 = (((s[j]'hlt).toNat - 48 : Nat) : Int) := by omega
            have HDD := Lib.hid hdd
            have HD2 : Hid (∀ d, d ∈ l ++ [(s[j]'hlt).toNat - 48] → d < 10) := Lib.hid (fun d hd => by
              rcases List.mem_append.1 hd with h | h
              · exact HD.out d h
              · simp at h; omega)
            clear hdd
            go_wp2_with (at_builtin; refine wpList_append_own _ rfl _ _ 133 rfl w.heap.size 3 i0 (.int .i64 0) 1 8 und64i hi hz0 hz1 hz2 rfl (by decide) _ _ _ rfl (hown.alloc _) ⟨wr.heap.size, 0, none⟩ 1 1 [.int .i64 (((s[j]'hlt).toNat : Int) - 48)] rfl rfl ?c1 ?c2 ?c3 ?c4 ?c5 ?_)
            case c1 =>
              intro k u hk
              match k, hk with
              | 0, hk => simp at hk; subst hk; simp [Addr.add]
            case c2 => intro u hu; simp at hu; subst hu; rfl
            case c3 => unfold maxLen; omega
            case c4 => omega
            case c5 => simp; omega
            · intro v' w1 hown' hgrow _
              have R1 : w1.ownsRow w.heap.size 3 1 v' (l ++ [(s[j]'hlt).toNat - 48]).length (vals (l ++ [(s[j]'hlt).toNat - 48])) := by
                rw [HS.out, ← HDD.out, List.length_append, ← HN.out]
                exact hown'
              have R2 : Below w.heap.size w w1 := (hb.alloc hb.size _).grown hgrow (by simp; omega) (own8_ge hown)
              have R3 : (l ++ [(s[j]'hlt).toNat - 48]).length ≤ most := by rw [List.length_append, ← HN.out]; simp; omega
              clear hown' hgrow hown hb
              go_wp2
              go_roundw
              case rel => exact ⟨j + 1, _, by omega, by go_num, HD2, R3, R1, R2⟩
              case measure => simp [intOf] <;> omega
          · go_wp2
            go_roundw
            case rel => exact ⟨j + 1, l, by omega, by go_num, HD, by rw [← HN.out]; omega, by rw [← HN.out]; exact hown, hb⟩
            case measure => simp [intOf] <;> omega
        · go_wp2
          go_roundw
          case rel => exact ⟨j + 1, l, by omega, by go_num, HD, by rw [← HN.out]; omega, by rw [← HN.out]; exact hown, hb⟩
          case measure => simp [intOf] <;> omega
      · have HB := Lib.hid hb
        clear hown hb
        by_cases hse : 0 < s.size
        · have hsz : (0 : Int) < (s.size : Int) := by omega
          go_wp2_with (go_at_call 146; refine Calls.mono (TX.out _).2.2 ?_; rintro e w1 ⟨rfl, hb1⟩)
          go_ret
          exact ⟨Z _, (TX.out _).2.1, congrArg (fun s => Ending.returned (.string s)) (TX.out _).1, HB.out.trans (hb1.mono hws)⟩
        · have hsz : ¬ (0 : Int) < (s.size : Int) := by omega
          go_wp2_with (go_at_call 146; refine Calls.mono (TX.out _).2.2 ?_; rintro e w1 ⟨rfl, hb1⟩)
          go_ret
          exact ⟨Z _, (TX.out _).2.1, congrArg (fun s => Ending.returned (.string s)) (TX.out _).1, HB.out.trans (hb1.mono hws)⟩
    · have HB := Lib.hid hb
      clear hown hb
      by_cases hse : 0 < s.size
      · have hsz : (0 : Int) < (s.size : Int) := by omega
        go_wp2_with (go_at_call 146; refine Calls.mono (TX.out _).2.2 ?_; rintro e w1 ⟨rfl, hb1⟩)
        go_ret
        exact ⟨Z _, (TX.out _).2.1, congrArg (fun s => Ending.returned (.string s)) (TX.out _).1, HB.out.trans (hb1.mono hws)⟩
      · have hsz : ¬ (0 : Int) < (s.size : Int) := by omega
        go_wp2_with (go_at_call 146; refine Calls.mono (TX.out _).2.2 ?_; rintro e w1 ⟨rfl, hb1⟩)
        go_ret
        exact ⟨Z _, (TX.out _).2.1, congrArg (fun s => Ending.returned (.string s)) (TX.out _).1, HB.out.trans (hb1.mono hws)⟩
end Go.Proofs.YtkhebidmfjbhaaaGreatDoor
namespace Go.Proofs.YtkhebidmfjbhaaaGreatDoor
open Go.RowKit

theorem red_neg_g_o (X Y A B G : ByteArray) (c : Int) (w : World) (CM : ∀ W, Calls Tryz.prog 121 #[.string Y, .string ⟨#[48]⟩] W (GivesI c W)) (hc : c < 0) (OX : ∀ W, Calls Tryz.prog 112 #[.string X] W (GivesY A W)) (OY : ∀ W, Calls Tryz.prog 112 #[.string Y] W (GivesY B W)) (DV : ∀ W, Calls Tryz.prog 144 #[.string A, .string B] W (GivesY G W)) (hg : (G.toList == [49]) = true) (h1 : (B.toList == [49]) = true) : Calls Tryz.prog 113 #[.string X, .string Y] w (GivesY A w) := by
  replace CM := Lib.hid CM
  replace DV := Lib.hid DV
  replace OX := Lib.hid OX
  replace OY := Lib.hid OY
  go_enter Tryz.func113, Tryz.ntmps113
  go_wp2_with fail
  refine (CM.out _).mono ?_
  rintro e w1 ⟨rfl, hb1⟩
  have B := Lib.hid hb1
  clear hb1
  go_wp2_with fail
  refine (OX.out _).mono ?_
  rintro e w2 ⟨rfl, hb2⟩
  replace B := Lib.hid (B.out.trans (hb2.mono B.out.size))
  clear hb2
  go_wp2_with fail
  refine (OY.out _).mono ?_
  rintro e w3 ⟨rfl, hb3⟩
  replace B := Lib.hid (B.out.trans (hb3.mono B.out.size))
  clear hb3
  go_wp2_with fail
  refine (DV.out _).mono ?_
  rintro e w4 ⟨rfl, hb4⟩
  replace B := Lib.hid (B.out.trans (hb4.mono B.out.size))
  clear hb4
  go_wp2
  go_ret
  exact ⟨rfl, B.out⟩
theorem red_neg_g_f (X Y A B G : ByteArray) (c : Int) (w : World) (CM : ∀ W, Calls Tryz.prog 121 #[.string Y, .string ⟨#[48]⟩] W (GivesI c W)) (hc : c < 0) (OX : ∀ W, Calls Tryz.prog 112 #[.string X] W (GivesY A W)) (OY : ∀ W, Calls Tryz.prog 112 #[.string Y] W (GivesY B W)) (DV : ∀ W, Calls Tryz.prog 144 #[.string A, .string B] W (GivesY G W)) (hg : (G.toList == [49]) = true) (h1 : (B.toList == [49]) = false) (z1 : A.size ≤ 100000) (z2 : B.size ≤ 100000) : Calls Tryz.prog 113 #[.string X, .string Y] w (GivesY (A ++ ⟨#[47]⟩ ++ B) w) := by
  replace CM := Lib.hid CM
  replace DV := Lib.hid DV
  replace OX := Lib.hid OX
  replace OY := Lib.hid OY
  have y1 : ¬ 9223372036854775807 < A.size + 1 := by omega
  have y2 : ¬ 9223372036854775807 < A.size + 1 + B.size := by omega
  go_enter Tryz.func113, Tryz.ntmps113
  go_wp2_with fail
  refine (CM.out _).mono ?_
  rintro e w1 ⟨rfl, hb1⟩
  have B := Lib.hid hb1
  clear hb1
  go_wp2_with fail
  refine (OX.out _).mono ?_
  rintro e w2 ⟨rfl, hb2⟩
  replace B := Lib.hid (B.out.trans (hb2.mono B.out.size))
  clear hb2
  go_wp2_with fail
  refine (OY.out _).mono ?_
  rintro e w3 ⟨rfl, hb3⟩
  replace B := Lib.hid (B.out.trans (hb3.mono B.out.size))
  clear hb3
  go_wp2_with fail
  refine (DV.out _).mono ?_
  rintro e w4 ⟨rfl, hb4⟩
  replace B := Lib.hid (B.out.trans (hb4.mono B.out.size))
  clear hb4
  go_wp2
  go_ret
  exact ⟨rfl, B.out⟩
theorem red_neg_n_o (X Y A B G C D : ByteArray) (c : Int) (w : World) (CM : ∀ W, Calls Tryz.prog 121 #[.string Y, .string ⟨#[48]⟩] W (GivesI c W)) (hc : c < 0) (OX : ∀ W, Calls Tryz.prog 112 #[.string X] W (GivesY A W)) (OY : ∀ W, Calls Tryz.prog 112 #[.string Y] W (GivesY B W)) (DV : ∀ W, Calls Tryz.prog 144 #[.string A, .string B] W (GivesY G W)) (R S : ByteArray) (hg : (G.toList == [49]) = false) (Q1 : ∀ W, Calls Tryz.prog 153 #[.string A, .string G] W (GivesQQ C R W)) (Q2 : ∀ W, Calls Tryz.prog 153 #[.string B, .string G] W (GivesQQ D S W)) (h1 : (D.toList == [49]) = true) : Calls Tryz.prog 113 #[.string X, .string Y] w (GivesY C w) := by
  replace CM := Lib.hid CM
  replace DV := Lib.hid DV
  replace OX := Lib.hid OX
  replace OY := Lib.hid OY
  replace Q1 := Lib.hid Q1
  replace Q2 := Lib.hid Q2
  go_enter Tryz.func113, Tryz.ntmps113
  go_wp2_with fail
  refine (CM.out _).mono ?_
  rintro e w1 ⟨rfl, hb1⟩
  have B := Lib.hid hb1
  clear hb1
  go_wp2_with fail
  refine (OX.out _).mono ?_
  rintro e w2 ⟨rfl, hb2⟩
  replace B := Lib.hid (B.out.trans (hb2.mono B.out.size))
  clear hb2
  go_wp2_with fail
  refine (OY.out _).mono ?_
  rintro e w3 ⟨rfl, hb3⟩
  replace B := Lib.hid (B.out.trans (hb3.mono B.out.size))
  clear hb3
  go_wp2_with fail
  refine (DV.out _).mono ?_
  rintro e w4 ⟨rfl, hb4⟩
  replace B := Lib.hid (B.out.trans (hb4.mono B.out.size))
  clear hb4
  go_wp2_with fail
  refine (Q1.out _).mono ?_
  rintro e w5 ⟨rfl, hb5⟩
  replace B := Lib.hid (B.out.trans (hb5.mono B.out.size))
  clear hb5
  go_wp2_with fail
  refine (Q2.out _).mono ?_
  rintro e w6 ⟨rfl, hb6⟩
  replace B := Lib.hid (B.out.trans (hb6.mono B.out.size))
  clear hb6
  go_wp2
  go_ret
  exact ⟨rfl, B.out⟩
theorem red_neg_n_f (X Y A B G C D : ByteArray) (c : Int) (w : World) (CM : ∀ W, Calls Tryz.prog 121 #[.string Y, .string ⟨#[48]⟩] W (GivesI c W)) (hc : c < 0) (OX : ∀ W, Calls Tryz.prog 112 #[.string X] W (GivesY A W)) (OY : ∀ W, Calls Tryz.prog 112 #[.string Y] W (GivesY B W)) (DV : ∀ W, Calls Tryz.prog 144 #[.string A, .string B] W (GivesY G W)) (R S : ByteArray) (hg : (G.toList == [49]) = false) (Q1 : ∀ W, Calls Tryz.prog 153 #[.string A, .string G] W (GivesQQ C R W)) (Q2 : ∀ W, Calls Tryz.prog 153 #[.string B, .string G] W (GivesQQ D S W)) (h1 : (D.toList == [49]) = false) (z1 : C.size ≤ 100000) (z2 : D.size ≤ 100000) : Calls Tryz.prog 113 #[.string X, .string Y] w (GivesY (C ++ ⟨#[47]⟩ ++ D) w) := by
  replace CM := Lib.hid CM
  replace DV := Lib.hid DV
  replace OX := Lib.hid OX
  replace OY := Lib.hid OY
  replace Q1 := Lib.hid Q1
  replace Q2 := Lib.hid Q2
  have y1 : ¬ 9223372036854775807 < C.size + 1 := by omega
  have y2 : ¬ 9223372036854775807 < C.size + 1 + D.size := by omega
  go_enter Tryz.func113, Tryz.ntmps113
  go_wp2_with fail
  refine (CM.out _).mono ?_
  rintro e w1 ⟨rfl, hb1⟩
  have B := Lib.hid hb1
  clear hb1
  go_wp2_with fail
  refine (OX.out _).mono ?_
  rintro e w2 ⟨rfl, hb2⟩
  replace B := Lib.hid (B.out.trans (hb2.mono B.out.size))
  clear hb2
  go_wp2_with fail
  refine (OY.out _).mono ?_
  rintro e w3 ⟨rfl, hb3⟩
  replace B := Lib.hid (B.out.trans (hb3.mono B.out.size))
  clear hb3
  go_wp2_with fail
  refine (DV.out _).mono ?_
  rintro e w4 ⟨rfl, hb4⟩
  replace B := Lib.hid (B.out.trans (hb4.mono B.out.size))
  clear hb4
  go_wp2_with fail
  refine (Q1.out _).mono ?_
  rintro e w5 ⟨rfl, hb5⟩
  replace B := Lib.hid (B.out.trans (hb5.mono B.out.size))
  clear hb5
  go_wp2_with fail
  refine (Q2.out _).mono ?_
  rintro e w6 ⟨rfl, hb6⟩
  replace B := Lib.hid (B.out.trans (hb6.mono B.out.size))
  clear hb6
  go_wp2
  go_ret
  exact ⟨rfl, B.out⟩
theorem red_pos_g_o (A B G : ByteArray) (c : Int) (w : World) (CM : ∀ W, Calls Tryz.prog 121 #[.string B, .string ⟨#[48]⟩] W (GivesI c W)) (hc : ¬ c < 0) (DV : ∀ W, Calls Tryz.prog 144 #[.string A, .string B] W (GivesY G W)) (hg : (G.toList == [49]) = true) (h1 : (B.toList == [49]) = true) : Calls Tryz.prog 113 #[.string A, .string B] w (GivesY A w) := by
  replace CM := Lib.hid CM
  replace DV := Lib.hid DV
  go_enter Tryz.func113, Tryz.ntmps113
  go_wp2_with fail
  refine (CM.out _).mono ?_
  rintro e w1 ⟨rfl, hb1⟩
  have B := Lib.hid hb1
  clear hb1
  go_wp2_with fail
  refine (DV.out _).mono ?_
  rintro e w4 ⟨rfl, hb4⟩
  replace B := Lib.hid (B.out.trans (hb4.mono B.out.size))
  clear hb4
  go_wp2
  go_ret
  exact ⟨rfl, B.out⟩
theorem red_pos_g_f (A B G : ByteArray) (c : Int) (w : World) (CM : ∀ W, Calls Tryz.prog 121 #[.string B, .string ⟨#[48]⟩] W (GivesI c W)) (hc : ¬ c < 0) (DV : ∀ W, Calls Tryz.prog 144 #[.string A, .string B] W (GivesY G W)) (hg : (G.toList == [49]) = true) (h1 : (B.toList == [49]) = false) (z1 : A.size ≤ 100000) (z2 : B.size ≤ 100000) : Calls Tryz.prog 113 #[.string A, .string B] w (GivesY (A ++ ⟨#[47]⟩ ++ B) w) := by
  replace CM := Lib.hid CM
  replace DV := Lib.hid DV
  have y1 : ¬ 9223372036854775807 < A.size + 1 := by omega
  have y2 : ¬ 9223372036854775807 < A.size + 1 + B.size := by omega
  go_enter Tryz.func113, Tryz.ntmps113
  go_wp2_with fail
  refine (CM.out _).mono ?_
  rintro e w1 ⟨rfl, hb1⟩
  have B := Lib.hid hb1
  clear hb1
  go_wp2_with fail
  refine (DV.out _).mono ?_
  rintro e w4 ⟨rfl, hb4⟩
  replace B := Lib.hid (B.out.trans (hb4.mono B.out.size))
  clear hb4
  go_wp2
  go_ret
  exact ⟨rfl, B.out⟩
theorem red_pos_n_o (A B G C D : ByteArray) (c : Int) (w : World) (CM : ∀ W, Calls Tryz.prog 121 #[.string B, .string ⟨#[48]⟩] W (GivesI c W)) (hc : ¬ c < 0) (DV : ∀ W, Calls Tryz.prog 144 #[.string A, .string B] W (GivesY G W)) (R S : ByteArray) (hg : (G.toList == [49]) = false) (Q1 : ∀ W, Calls Tryz.prog 153 #[.string A, .string G] W (GivesQQ C R W)) (Q2 : ∀ W, Calls Tryz.prog 153 #[.string B, .string G] W (GivesQQ D S W)) (h1 : (D.toList == [49]) = true) : Calls Tryz.prog 113 #[.string A, .string B] w (GivesY C w) := by
  replace CM := Lib.hid CM
  replace DV := Lib.hid DV
  replace Q1 := Lib.hid Q1
  replace Q2 := Lib.hid Q2
  go_enter Tryz.func113, Tryz.ntmps113
  go_wp2_with fail
  refine (CM.out _).mono ?_
  rintro e w1 ⟨rfl, hb1⟩
  have B := Lib.hid hb1
  clear hb1
  go_wp2_with fail
  refine (DV.out _).mono ?_
  rintro e w4 ⟨rfl, hb4⟩
  replace B := Lib.hid (B.out.trans (hb4.mono B.out.size))
  clear hb4
  go_wp2_with fail
  refine (Q1.out _).mono ?_
  rintro e w5 ⟨rfl, hb5⟩
  replace B := Lib.hid (B.out.trans (hb5.mono B.out.size))
  clear hb5
  go_wp2_with fail
  refine (Q2.out _).mono ?_
  rintro e w6 ⟨rfl, hb6⟩
  replace B := Lib.hid (B.out.trans (hb6.mono B.out.size))
  clear hb6
  go_wp2
  go_ret
  exact ⟨rfl, B.out⟩
theorem red_pos_n_f (A B G C D : ByteArray) (c : Int) (w : World) (CM : ∀ W, Calls Tryz.prog 121 #[.string B, .string ⟨#[48]⟩] W (GivesI c W)) (hc : ¬ c < 0) (DV : ∀ W, Calls Tryz.prog 144 #[.string A, .string B] W (GivesY G W)) (R S : ByteArray) (hg : (G.toList == [49]) = false) (Q1 : ∀ W, Calls Tryz.prog 153 #[.string A, .string G] W (GivesQQ C R W)) (Q2 : ∀ W, Calls Tryz.prog 153 #[.string B, .string G] W (GivesQQ D S W)) (h1 : (D.toList == [49]) = false) (z1 : C.size ≤ 100000) (z2 : D.size ≤ 100000) : Calls Tryz.prog 113 #[.string A, .string B] w (GivesY (C ++ ⟨#[47]⟩ ++ D) w) := by
  replace CM := Lib.hid CM
  replace DV := Lib.hid DV
  replace Q1 := Lib.hid Q1
  replace Q2 := Lib.hid Q2
  have y1 : ¬ 9223372036854775807 < C.size + 1 := by omega
  have y2 : ¬ 9223372036854775807 < C.size + 1 + D.size := by omega
  go_enter Tryz.func113, Tryz.ntmps113
  go_wp2_with fail
  refine (CM.out _).mono ?_
  rintro e w1 ⟨rfl, hb1⟩
  have B := Lib.hid hb1
  clear hb1
  go_wp2_with fail
  refine (DV.out _).mono ?_
  rintro e w4 ⟨rfl, hb4⟩
  replace B := Lib.hid (B.out.trans (hb4.mono B.out.size))
  clear hb4
  go_wp2_with fail
  refine (Q1.out _).mono ?_
  rintro e w5 ⟨rfl, hb5⟩
  replace B := Lib.hid (B.out.trans (hb5.mono B.out.size))
  clear hb5
  go_wp2_with fail
  refine (Q2.out _).mono ?_
  rintro e w6 ⟨rfl, hb6⟩
  replace B := Lib.hid (B.out.trans (hb6.mono B.out.size))
  clear hb6
  go_wp2
  go_ret
  exact ⟨rfl, B.out⟩
theorem tx1_dec (z : Int) : ((tx z).toList == [49]) = decide (z = 1) := tx_lit z 1 _ (by simp [Lib.itoa, Lib.decDigits])
theorem tx_size_le {z : Int} (h : dn z ≤ 40000) : (tx z).size ≤ 100000 := Nat.le_trans (tx_sz h) (by omega)
theorem reduced_pos (n d : Int) (w : World) (hn : dn n ≤ 40000) (hd : dn d ≤ 40000) (h0 : 0 < d) : Calls Tryz.prog 113 #[.string (tx n), .string (tx d)] w (GivesY (qx (Rat.divInt n d)) w) := by
  have q := quo_pos n d h0
  have hg0 : (Int.gcd n d : Int) ≠ 0 := by
    have := Int.gcd_pos_of_ne_zero_right n (show d ≠ 0 by omega)
    omega
  have CM : ∀ W, Calls Tryz.prog 121 #[.string (tx d), .string ⟨#[48]⟩] W (GivesI (cmp3 d 0) W) := fun W => by
    have h := rcompare_any d 0 W (by omega) (by rw [dn_zero]; omega)
    rwa [show tx 0 = ⟨#[48]⟩ by unfold tx; simp [Lib.itoa, Lib.decDigits]] at h
  have hc : ¬ cmp3 d 0 < 0 := by rw [cmp3_gt h0]; decide
  have DV := fun W => rdivisor_any n d W hn hd
  have dd1 : dn (n.fdiv (Int.gcd n d)) ≤ 40000 := fdiv_dk hg0 hn
  have dd2 : dn (d.fdiv (Int.gcd n d)) ≤ 40000 := fdiv_dk hg0 hd
  have hdg : dn (Int.gcd n d : Int) ≤ 40000 := Nat.le_trans (dn_abs_le (x := (Int.gcd n d : Int)) (y := d) (by have := Int.gcd_le_right n h0; omega)) hd
  unfold qx
  rw [← q.1, ← q.2]
  by_cases hg : (Int.gcd n d : Int) = 1
  · rw [hg, Int.fdiv_one, Int.fdiv_one] at q ⊢
    have e1 : ((tx (Int.gcd n d : Int)).toList == [49]) = true := by rw [tx1_dec, hg]; rfl
    by_cases h1 : d = 1
    · rw [if_pos (by omega)]
      exact red_pos_g_o _ _ _ _ w CM hc DV e1 (by rw [tx1_dec]; exact decide_eq_true h1)
    · rw [if_neg (by omega)]
      exact red_pos_g_f _ _ _ _ w CM hc DV e1 (by rw [tx1_dec]; exact decide_eq_false h1) (tx_size_le hn) (tx_size_le hd)
  · have e1 : ((tx (Int.gcd n d : Int)).toList == [49]) = false := by rw [tx1_dec]; exact decide_eq_false hg
    have Q1 := fun W => rquo_any n (Int.gcd n d) W hn hdg hg0
    have Q2 := fun W => rquo_any d (Int.gcd n d) W hd hdg hg0
    by_cases h1 : d.fdiv (Int.gcd n d) = 1
    · rw [if_pos (by omega)]
      exact red_pos_n_o _ _ _ _ _ _ w CM hc DV _ _ e1 Q1 Q2 (by rw [tx1_dec]; exact decide_eq_true h1)
    · rw [if_neg (by omega)]
      exact red_pos_n_f _ _ _ _ _ _ w CM hc DV _ _ e1 Q1 Q2 (by rw [tx1_dec]; exact decide_eq_false h1) (tx_size_le dd1) (tx_size_le dd2)
theorem reduced_any (n d : Int) (w : World) (hn : dn n ≤ 40000) (hd : dn d ≤ 40000) (h0 : d ≠ 0) : Calls Tryz.prog 113 #[.string (tx n), .string (tx d)] w (GivesY (qx (Rat.divInt n d)) w) := by
  rcases Int.lt_or_gt_of_ne h0 with h | h
  · have hm : 0 < -d := by omega
    have eq : Rat.divInt n d = Rat.divInt (-n) (-d) := by rw [Rat.divInt_eq_divInt_iff h0 (by omega)]; grind
    have q := quo_pos (-n) (-d) hm
    rw [eq]
    rw [← dn_neg] at hn hd
    have hg0 : (Int.gcd (-n) (-d) : Int) ≠ 0 := by
      have := Int.gcd_pos_of_ne_zero_right (-n) (show -d ≠ 0 by omega)
      omega
    have CM : ∀ W, Calls Tryz.prog 121 #[.string (tx d), .string ⟨#[48]⟩] W (GivesI (cmp3 d 0) W) := fun W => by
      have h := rcompare_any d 0 W (by rw [← dn_neg]; omega) (by rw [dn_zero]; omega)
      rwa [show tx 0 = ⟨#[48]⟩ by unfold tx; simp [Lib.itoa, Lib.decDigits]] at h
    have hc : cmp3 d 0 < 0 := by rw [cmp3_lt h]; decide
    have OX := fun W => ropp_any n W (by rw [← dn_neg]; omega)
    have OY := fun W => ropp_any d W (by rw [← dn_neg]; omega)
    have DV := fun W => rdivisor_any (-n) (-d) W hn hd
    have dd1 : dn ((-n).fdiv (Int.gcd (-n) (-d))) ≤ 40000 := fdiv_dk hg0 hn
    have dd2 : dn ((-d).fdiv (Int.gcd (-n) (-d))) ≤ 40000 := fdiv_dk hg0 hd
    have hdg : dn (Int.gcd (-n) (-d) : Int) ≤ 40000 := Nat.le_trans (dn_abs_le (x := (Int.gcd (-n) (-d) : Int)) (y := -d) (by have := Int.gcd_le_right (-n) hm; omega)) hd
    unfold qx
    rw [← q.1, ← q.2]
    by_cases hg : (Int.gcd (-n) (-d) : Int) = 1
    · rw [hg, Int.fdiv_one, Int.fdiv_one] at q ⊢
      have e1 : ((tx (Int.gcd (-n) (-d) : Int)).toList == [49]) = true := by rw [tx1_dec, hg]; rfl
      by_cases h1 : -d = 1
      · rw [if_pos (by omega)]
        exact red_neg_g_o _ _ _ _ _ _ w CM hc OX OY DV e1 (by rw [tx1_dec]; exact decide_eq_true h1)
      · rw [if_neg (by omega)]
        exact red_neg_g_f _ _ _ _ _ _ w CM hc OX OY DV e1 (by rw [tx1_dec]; exact decide_eq_false h1) (tx_size_le hn) (tx_size_le hd)
    · have e1 : ((tx (Int.gcd (-n) (-d) : Int)).toList == [49]) = false := by rw [tx1_dec]; exact decide_eq_false hg
      have Q1 := fun W => rquo_any (-n) (Int.gcd (-n) (-d)) W hn hdg hg0
      have Q2 := fun W => rquo_any (-d) (Int.gcd (-n) (-d)) W hd hdg hg0
      by_cases h1 : (-d).fdiv (Int.gcd (-n) (-d)) = 1
      · rw [if_pos (by omega)]
        exact red_neg_n_o _ _ _ _ _ _ _ _ w CM hc OX OY DV _ _ e1 Q1 Q2 (by rw [tx1_dec]; exact decide_eq_true h1)
      · rw [if_neg (by omega)]
        exact red_neg_n_f _ _ _ _ _ _ _ _ w CM hc OX OY DV _ _ e1 Q1 Q2 (by rw [tx1_dec]; exact decide_eq_false h1) (tx_size_le dd1) (tx_size_le dd2)
  · exact reduced_pos n d w hn hd h
theorem fit3_any (s t : ByteArray) (most : Nat) (w : World) (hs : s.size ≤ 9223372036854775807) (ht : t.size ≤ 9223372036854775807) (h1 : 1 ≤ most) (h2 : most ≤ 1000) : Calls Tryz.prog 65 #[.string s, .string t, .int .i64 most] w (fun e w' => ∃ q : Rat, Sm most q ∧ GivesY (qx q) w e w') := by
  have F1 := Lib.hid (fun W => fit_any t most W ht h1 h2)
  have F2 := Lib.hid (fun W => fit_any s most W hs h1 h2)
  have M1 := Lib.hid h1
  have M2 := Lib.hid h2
  clear hs ht h1 h2
  go_enter Tryz.func65, Tryz.ntmps65
  go_wp2_with fail
  refine (F1.out _).mono ?_
  rintro e w1 ⟨z, hz, rfl, hb1⟩
  have BB := Lib.hid hb1
  clear hb1
  have P1 := Lib.hid (fun W => rpos_any z W (by have := M2.out; omega))
  obtain ⟨A, hA⟩ : ∃ s : ByteArray, s = tx z := ⟨_, rfl⟩
  rw [← hA] at P1
  rw [← hA]
  clear hA
  go_wp2_with fail
  refine (P1.out _).mono ?_
  rintro e w2 ⟨rfl, hb2⟩
  replace BB := Lib.hid (BB.out.trans (hb2.mono BB.out.size))
  clear hb2
  obtain ⟨B, hB⟩ : ∃ s : ByteArray, s = tx (z.natAbs : Int) := ⟨_, rfl⟩
  rw [← hB]
  by_cases hz0 : z = 0
  · have e0 : (B.toList == [48]) = true := by rw [hB, tx_lit _ 0 _ (by simp [Lib.itoa, Lib.decDigits])]; exact decide_eq_true (by omega)
    have HB := Lib.hid hB
    clear hB
    go_wp2_with fail
    refine (F2.out _).mono ?_
    rintro e w3 ⟨y, hy, rfl, hb3⟩
    replace BB := Lib.hid (BB.out.trans (hb3.mono BB.out.size))
    clear hb3
    have RD := Lib.hid (fun W => reduced_any y 1 W (by have := M2.out; omega) (by rw [dn_one]; omega) (by omega))
    obtain ⟨C, hC⟩ : ∃ s : ByteArray, s = tx y := ⟨_, rfl⟩
    rw [← hC] at RD
    rw [← hC]
    clear hC
    rw [tx_1] at RD
    go_wp2_with fail
    refine (RD.out _).mono ?_
    rintro e w4 ⟨rfl, hb4⟩
    replace BB := Lib.hid (BB.out.trans (hb4.mono BB.out.size))
    clear hb4
    obtain ⟨Q, hQ⟩ : ∃ s : ByteArray, s = qx (Rat.divInt y 1) := ⟨_, rfl⟩
    rw [← hQ]
    have HQ := Lib.hid hQ
    clear hQ
    go_wp2
    go_ret
    exact ⟨Rat.divInt y 1, Sm.divInt hy (by have := M1.out; rw [dn_one]; exact this) (by omega), by rw [HQ.out]; rfl, BB.out⟩
  · have e0 : (B.toList == [48]) = false := by rw [hB, tx_lit _ 0 _ (by simp [Lib.itoa, Lib.decDigits])]; exact decide_eq_false (by omega)
    have HB := Lib.hid hB
    clear hB
    go_wp2_with fail
    refine (F2.out _).mono ?_
    rintro e w3 ⟨y, hy, rfl, hb3⟩
    replace BB := Lib.hid (BB.out.trans (hb3.mono BB.out.size))
    clear hb3
    have RD := Lib.hid (fun W => reduced_any y (z.natAbs : Int) W (by have := M2.out; omega) (by rw [dn_abs]; have := M2.out; omega) (by omega))
    obtain ⟨C, hC⟩ : ∃ s : ByteArray, s = tx y := ⟨_, rfl⟩
    rw [← hC] at RD
    rw [← hC]
    clear hC
    rw [← HB.out] at RD
    go_wp2_with fail
    refine (RD.out _).mono ?_
    rintro e w4 ⟨rfl, hb4⟩
    replace BB := Lib.hid (BB.out.trans (hb4.mono BB.out.size))
    clear hb4
    obtain ⟨Q, hQ⟩ : ∃ s : ByteArray, s = qx (Rat.divInt y (z.natAbs : Int)) := ⟨_, rfl⟩
    rw [← hQ]
    have HQ := Lib.hid hQ
    clear hQ
    go_wp2
    go_ret
    exact ⟨Rat.divInt y (z.natAbs : Int), Sm.divInt hy (by rw [dn_abs]; exact hz) (by omega), by rw [HQ.out]; rfl, BB.out⟩
end Go.Proofs.YtkhebidmfjbhaaaGreatDoor
namespace Go.Proofs.YtkhebidmfjbhaaaGreatDoor
open Go.RowKit

theorem sum_of (s t T : ByteArray) (n : Int) (w : World) (C : Calls Tryz.prog 37 #[.string s, .string t] w (GivesSn T n w)) :
    Calls Tryz.prog 66 #[.string s, .string t] w (GivesY (if n = 0 then T else ⟨#[]⟩) w) := by
  replace C := Lib.hid C
  by_cases hn : n = 0
  · have e0 : (n == 0) = true := beq_iff_eq.2 hn
    rw [if_pos hn]
    clear hn
    go_enter Tryz.func66, Tryz.ntmps66
    go_wp2_with fail
    refine C.out.mono ?_
    rintro e w1 ⟨rfl, hb1⟩
    have B1 := Lib.hid hb1
    clear hb1
    go_wp2
    go_ret
    exact ⟨rfl, B1.out⟩
  · have e0 : (n == 0) = false := beq_eq_false_iff_ne.2 hn
    rw [if_neg hn]
    clear hn
    go_enter Tryz.func66, Tryz.ntmps66
    go_wp2_with fail
    refine C.out.mono ?_
    rintro e w1 ⟨rfl, hb1⟩
    have B1 := Lib.hid hb1
    clear hb1
    go_wp2
    go_ret
    exact ⟨rfl, B1.out⟩
theorem sum_q {a b c : Rat} (w : World) (tb : Tb w) (ha : Sm 1000 a) (hb : Sm 1000 b) (hc : Sm 1000 c) (h : a + b = c) : Calls Tryz.prog 66 #[.string (qx a), .string (qx b)] w (GivesY (qx c) w) := by
  have h1 := sum_of _ _ (qx c) 0 w ((Add_q w tb ha hb).mono (fun e w' g => by rw [h] at g; exact g.ok hc))
  rwa [if_pos rfl] at h1
theorem Sub_ok {a b c : Rat} (w : World) (tb : Tb w) (ha : Sm 1000 a) (hb : Sm 1000 b) (hc : Sm 1000 c) (h : a - b = c) : Calls Tryz.prog 39 #[.string (qx a), .string (qx b)] w (GivesSn (qx c) 0 w) :=
  (Sub_q w tb ha hb).mono (fun e w' g => by rw [h] at g; exact g.ok hc)
/-- The call goes on from the world b. -/
theorem armL {P : Program} {f : Nat} {args : Array Value} {W b : World} {Q Q' : Ending → World → Prop} (g : Below b.heap.size b W) (hc : Calls P f args W Q) (hk : ∀ e W', Q e W' ∧ Below b.heap.size b W → Q' e W') : Calls P f args W Q' :=
  hc.mono (fun e W' q => hk e W' ⟨q, g⟩)
/-- Two texts in a box. -/
structure Bx2 (W : World) (k : Nat) (s t : ByteArray) : Prop where
  c0 : W.cell? ⟨k, 0, none⟩ = some (.string s)
  c1 : W.cell? ⟨k, 1, none⟩ = some (.string t)
theorem Bx2.new (w : World) (s t : ByteArray) (T : TypeId) (k : Nat) (hk : k = w.heap.size) : Bx2 (w.alloc (.cells #[.string s, .string t] T)) k s t := ⟨by rw [World.cell?_alloc_at _ _ _ _ hk]; rfl, by rw [World.cell?_alloc_at _ _ _ _ hk]; rfl⟩
theorem Bx2.below {W W' : World} {k : Nat} {s t : ByteArray} (h : Bx2 W k s t) (hb : Below W.heap.size W W') : Bx2 W' k s t :=
  have hk := World.block_lt_of_cell? W ⟨k, 0, none⟩ h.c0
  ⟨(below_at hb 0 hk).trans h.c0, (below_at hb 1 hk).trans h.c1⟩
end Go.Proofs.YtkhebidmfjbhaaaGreatDoor
namespace Go.Proofs.YtkhebidmfjbhaaaGreatDoor
open Go.RowKit

theorem lt_crossed {a b : Rat} : a < b ↔ a.num * (b.den : Int) < b.num * (a.den : Int) := Rat.lt_iff a b
theorem ecmp_lt {a b : Rat} (h : a < b) : ecmp (some a) (some b) = -1 := by
  have h1 := lt_crossed.1 h
  show cmp3 (a.num * (b.den : Int)) (b.num * (a.den : Int)) = -1
  unfold cmp3
  rw [if_pos h1]
theorem ecmp_gt {a b : Rat} (h : b < a) : ecmp (some a) (some b) = 1 := by
  have h1 := lt_crossed.1 h
  show cmp3 (a.num * (b.den : Int)) (b.num * (a.den : Int)) = 1
  unfold cmp3
  rw [if_neg (by omega), if_pos h1]
theorem ecmp_self (a : Option Rat) : ecmp a a = 0 := by
  unfold ecmp cmp3
  rw [if_neg (by omega), if_neg (by omega)]
theorem ecmp_inf (a : Rat) : ecmp (some a) none = -1 := by
  have h := a.den_pos
  show cmp3 (a.num * 0) (1 * (a.den : Int)) = -1
  unfold cmp3
  rw [if_pos (by omega)]
theorem inf_ecmp (a : Rat) : ecmp none (some a) = 1 := by
  have h := a.den_pos
  show cmp3 (1 * (a.den : Int)) (a.num * 0) = 1
  unfold cmp3
  rw [if_neg (by omega), if_pos (by omega)]
theorem elt_q {a b : Rat} : elt (some a) (some b) = decide (a < b) := by
  show decide (a.num * (b.den : Int) < b.num * (a.den : Int)) = _
  exact decide_eq_decide.mpr lt_crossed.symm
theorem elt_inf (a : Rat) : elt (some a) none = true := by
  have h := a.den_pos
  exact decide_eq_true (show a.num * 0 < 1 * (a.den : Int) by omega)
theorem inf_elt (x : Option Rat) : elt none x = false := by
  cases x with
  | none => exact decide_eq_false (show ¬ (1 : Int) * 0 < 1 * 0 by omega)
  | some a =>
    have h := a.den_pos
    exact decide_eq_false (show ¬ (1 : Int) * (a.den : Int) < a.num * 0 by omega)
theorem sme_q {a : Rat} (h : Sm 1000 a) : SmE 1000 (some a) := h
theorem sme_inf : SmE 1000 none := trivial

theorem Cmp_lt {a b : Rat} (w : World) (ha : Sm 1000 a) (hb : Sm 1000 b) (h : a < b) : Calls Tryz.prog 25 #[.string (qx a), .string (qx b)] w (GivesI (-1) w) := by
  have := Cmp_e (a := some a) (b := some b) w (sme_q ha) (sme_q hb)
  rw [ecmp_lt h] at this
  exact this
theorem Cmp_gt {a b : Rat} (w : World) (ha : Sm 1000 a) (hb : Sm 1000 b) (h : b < a) : Calls Tryz.prog 25 #[.string (qx a), .string (qx b)] w (GivesI 1 w) := by
  have := Cmp_e (a := some a) (b := some b) w (sme_q ha) (sme_q hb)
  rw [ecmp_gt h] at this
  exact this
theorem Cmp_same {a b : Rat} (w : World) (ha : Sm 1000 a) (h : a = b) : Calls Tryz.prog 25 #[.string (qx a), .string (qx b)] w (GivesI 0 w) := by
  subst h
  have := Cmp_e (a := some a) (b := some a) w (sme_q ha) (sme_q ha)
  rw [ecmp_self] at this
  exact this
/-- How two numbers lie, as a sign. -/
def oc (a b : Rat) : Int := if a < b then -1 else if b < a then 1 else 0
theorem oc_lt {a b : Rat} (h : a < b) : oc a b = -1 := if_pos h
theorem oc_gt {a b : Rat} (h : b < a) : oc a b = 1 := by unfold oc; rw [if_neg (by grind), if_pos h]
theorem oc_self (a : Rat) : oc a a = 0 := by unfold oc; rw [if_neg (by grind), if_neg (by grind)]
theorem oc_eq {a b : Rat} (h : a = b) : oc a b = 0 := by subst h; exact oc_self a
theorem q_lies (a b : Rat) : a < b ∨ a = b ∨ b < a := by grind
theorem Cmp_oc {a b : Rat} (w : World) (ha : Sm 1000 a) (hb : Sm 1000 b) {n : Int} (hn : oc a b = n) : Calls Tryz.prog 25 #[.string (qx a), .string (qx b)] w (GivesI n w) := by
  subst hn
  rcases q_lies a b with h | h | h
  · rw [oc_lt h]; exact Cmp_lt w ha hb h
  · rw [oc_eq h]; exact Cmp_same w ha h
  · rw [oc_gt h]; exact Cmp_gt w ha hb h
theorem Cmp_inf {a : Rat} (w : World) (ha : Sm 1000 a) : Calls Tryz.prog 25 #[.string (qx a), .string ⟨#[105, 110, 102]⟩] w (GivesI (-1) w) := by
  have := Cmp_e (a := some a) (b := none) w (sme_q ha) sme_inf
  rw [ecmp_inf] at this
  exact this
theorem inf_Cmp {a : Rat} (w : World) (ha : Sm 1000 a) : Calls Tryz.prog 25 #[.string ⟨#[105, 110, 102]⟩, .string (qx a)] w (GivesI 1 w) := by
  have := Cmp_e (a := none) (b := some a) w sme_inf (sme_q ha)
  rw [inf_ecmp] at this
  exact this
theorem inf_Cmp_inf (w : World) : Calls Tryz.prog 25 #[.string ⟨#[105, 110, 102]⟩, .string ⟨#[105, 110, 102]⟩] w (GivesI 0 w) := by
  have := Cmp_e (a := none) (b := none) w sme_inf sme_inf
  rw [ecmp_self] at this
  exact this
theorem Min_le {a b : Rat} (w : World) (ha : Sm 1000 a) (hb : Sm 1000 b) (h : ¬ b < a) : Calls Tryz.prog 27 #[.string (qx a), .string (qx b)] w (GivesY (qx a) w) := by
  have := Min_e (a := some a) (b := some b) w (sme_q ha) (sme_q hb)
  rw [elt_q, decide_eq_false h] at this
  exact this
theorem Min_gt {a b : Rat} (w : World) (ha : Sm 1000 a) (hb : Sm 1000 b) (h : b < a) : Calls Tryz.prog 27 #[.string (qx a), .string (qx b)] w (GivesY (qx b) w) := by
  have := Min_e (a := some a) (b := some b) w (sme_q ha) (sme_q hb)
  rw [elt_q, decide_eq_true h] at this
  exact this
theorem Max_ge {a b : Rat} (w : World) (ha : Sm 1000 a) (hb : Sm 1000 b) (h : ¬ a < b) : Calls Tryz.prog 29 #[.string (qx a), .string (qx b)] w (GivesY (qx a) w) := by
  have := Max_e (a := some a) (b := some b) w (sme_q ha) (sme_q hb)
  rw [elt_q, decide_eq_false h] at this
  exact this
theorem Max_lt {a b : Rat} (w : World) (ha : Sm 1000 a) (hb : Sm 1000 b) (h : a < b) : Calls Tryz.prog 29 #[.string (qx a), .string (qx b)] w (GivesY (qx b) w) := by
  have := Max_e (a := some a) (b := some b) w (sme_q ha) (sme_q hb)
  rw [elt_q, decide_eq_true h] at this
  exact this
theorem inf_Min {a : Rat} (w : World) (ha : Sm 1000 a) : Calls Tryz.prog 27 #[.string ⟨#[105, 110, 102]⟩, .string (qx a)] w (GivesY (qx a) w) := by
  have := Min_e (a := none) (b := some a) w sme_inf (sme_q ha)
  rw [elt_inf] at this
  exact this
theorem inf_Max {a : Rat} (w : World) (ha : Sm 1000 a) : Calls Tryz.prog 29 #[.string ⟨#[105, 110, 102]⟩, .string (qx a)] w (GivesY ⟨#[105, 110, 102]⟩ w) := by
  have := Max_e (a := none) (b := some a) w sme_inf (sme_q ha)
  rw [inf_elt] at this
  exact this
theorem Mid_ok {a b c : Rat} (w : World) (tb : Tb w) (ha : Sm 1000 a) (hb : Sm 1000 b) (hc : Sm 1000 c) (h : (a + b) / 2 = c) : Calls Tryz.prog 45 #[.string (qx a), .string (qx b)] w (GivesSn (qx c) 0 w) :=
  (Mid_q w tb ha hb).mono fun _ _ g => GivesQx.ok (h ▸ g) hc
theorem num_sign {a : Rat} : (a < 0 ↔ a.num < 0) ∧ (0 < a ↔ 0 < a.num) := by
  have h := a.den_pos
  constructor
  · rw [lt_crossed]
    simp
  · rw [lt_crossed]
    simp
theorem Sign_oc {a : Rat} (w : World) (ha : Sm 1000 a) {n : Int} (hn : oc a 0 = n) : Calls Tryz.prog 23 #[.string (qx a)] w (GivesI n w) := by
  subst hn
  have := Sign_q a w ha
  have e : sg a.num = oc a 0 := by
    have h1 := num_sign (a := a)
    rcases q_lies a 0 with h | h | h
    · rw [oc_lt h, sg_m1 (h1.1.1 h)]
    · rw [oc_eq h]; subst h; rfl
    · rw [oc_gt h, sg_1 (h1.2.1 h)]
  rw [e] at this
  exact this
theorem sm2 : Sm 1 2 := by
  have h1 : (2 : Rat).num = 2 := rfl
  have h2 : (2 : Rat).den = 1 := rfl
  unfold Sm
  rw [h1, h2]
  exact ⟨Nat.le_of_eq (Lib.nDigits_small (by decide)), Nat.le_of_eq (Lib.nDigits_small (by decide))⟩
theorem Sm.half {k : Nat} {a : Rat} (h : Sm k a) (hk : 1 ≤ k) : Sm (k + 1) (a / 2) := by
  exact h.div sm2 hk (by grind)
end Go.Proofs.YtkhebidmfjbhaaaGreatDoor
