/-
  What the reference's difference returns: the digits of a difference.
  What the reference's size returns: the order of two numbers by their digits.
  What the reference's Digits and short return.
  What the reference's Valid, Long and Is return.
  What the reference's Number returns: the text of an int.
-/
import Derived.Test.YtkhebidmfjbhaaaGreatDoorZ25
import Derived.Lib.IndexBytes
namespace Go.Proofs.YtkhebidmfjbhaaaGreatDoor
open Go.RowKit

/-- The borrow at place i of x - y. -/
def bw (x y : Int) (i : Nat) : Int := - Ten.mx 1 (-1) x y i
theorem bw_bd (x y : Int) (i : Nat) : 0 ≤ bw x y i ∧ bw x y i ≤ 1 := by
  unfold bw Ten.mx
  have hp := Ten.bp_pos i
  obtain ⟨a1, a2⟩ := Ten.mod_bd x i
  obtain ⟨b1, b2⟩ := Ten.mod_bd y i
  rw [Int.one_mul, Int.neg_mul, Int.one_mul]
  generalize x % Ten.bp i = p at *
  generalize y % Ten.bp i = q at *
  rcases Int.lt_or_le p q with h | h
  · have e : (p + -q) / Ten.bp i = -1 := by
      have e1 : p + -q = (p + -q + Ten.bp i) + Ten.bp i * -1 := by omega
      rw [e1, Int.add_mul_ediv_left _ _ (by omega), Int.ediv_eq_zero_of_lt (by omega) (by omega)]
      rfl
    rw [e]
    omega
  · rw [Int.ediv_eq_zero_of_lt (by omega) (by omega)]
    omega
theorem bw_step (x y : Int) (i : Nat) : (Ten.lz x i - bw x y i - Ten.lz y i) % 10 = Ten.lz (x - y) i ∧ (Ten.lz x i - bw x y i - Ten.lz y i) / 10 = - bw x y (i + 1) := by
  have h := Ten.mx_step 1 (-1) x y i
  rw [Int.one_mul, Int.neg_mul, Int.one_mul, Int.one_mul, Int.neg_mul, Int.one_mul] at h
  unfold bw
  rw [show Ten.lz x i - -Ten.mx 1 (-1) x y i - Ten.lz y i = Ten.mx 1 (-1) x y i + (Ten.lz x i + -Ten.lz y i) by omega, show x - y = x + -y by omega]
  exact ⟨h.1, by rw [h.2]; omega⟩
/-- The call hands back the digits of x, no more than it has, in a row of its own. -/
def GivesTrim (n : Nat) (x : Int) (w : World) (e : Ending) (w' : World) : Prop := ∃ a c, e = .returned (.slice a (Ten.nl x) c) ∧ Ten.nl x ≤ c ∧ 0 ≤ x ∧ RowD w' w'.heap.size a (Ten.nl x) x ∧ Below w.heap.size w w' ∧ (0 < n → ∃ g o, a = some ⟨g, o, none⟩ ∧ w.heap.size ≤ g ∧ g < w'.heap.size)
theorem RowD.less {w : World} {B n m : Nat} {a : Option Addr} {x : Int} (h : RowD w B a n x) (hm : m ≤ n) : RowD w B a m x := fun h0 => by
  obtain ⟨g, o, e, hg, hc⟩ := h (by omega)
  exact ⟨g, o, e, hg, fun j hj => hc j (by omega)⟩
set_option maxHeartbeats 4000000 in
set_option maxRecDepth 100000 in
theorem rdiff_any (a b : Option Addr) (n c k d : Nat) (x y : Int) (w : World) (_hx0 : 0 ≤ x) (hx : x < Ten.bp n) (hy0 : 0 ≤ y) (hy : y < Ten.bp k) (hyx : y ≤ x) (hn : n ≤ 100000) (_hk : k ≤ 100000)
    (ha : RowD w w.heap.size a n x) (hb : RowD w w.heap.size b k y) :
    Calls Tryz.prog 164 #[.slice a n c, .slice b k d] w (GivesTrim n (x - y) w) := by
  obtain ⟨i0, hi, hz0, hz1, hz2⟩ := info_parts infoI64
  have HA := Lib.hid ha
  have HB := Lib.hid hb
  have HY := Lib.hid (fun i => lz_past (i := i) hy0 hy)
  have ST := Lib.hid (bw_step x y)
  have BD := Lib.hid (bw_bd x y)
  have M0 : bw x y 0 = 0 := by unfold bw; rw [Ten.mx_zero]; rfl
  have hown0 : w.ownsRow w.heap.size 3 1 (.slice none 0 0) 0 (vals (dl (x - y) 0)) := World.ownsRow_nil _ _ _ _
  have hxy0 : 0 ≤ x - y := by omega
  have hlt : x - y < Ten.bp n := by omega
  have HLT := Lib.hid hlt
  clear ha hb hx hy hlt
  go_enter Tryz.func164, Tryz.ntmps164
  go_wp2_with fail
  go_loopw [5, 6, 7] (fun v q i wr => ∃ j : Nat, j ≤ n ∧ i = .int .i64 j ∧ q = .int .i64 (bw x y j) ∧ wr.ownsRow w.heap.size 3 1 v j (vals (dl (x - y) j)) ∧ Below w.heap.size w wr) (fun _ _ i _ => n - (intOf i).toNat)
  case atStart => exact ⟨0, by omega, rfl, by rw [M0], hown0, Below.refl _ _⟩
  case round =>
    clear hown0 M0
    obtain ⟨j, hj, rfl, rfl, hown, hbe⟩ := hrel
    have hws := hbe.size
    have hlen : (vals (dl (x - y) j)).length = j := by unfold vals; rw [List.length_map, dl_len]
    obtain ⟨s1, s2⟩ := ST.out j
    obtain ⟨b1, b2⟩ := BD.out j
    obtain ⟨b3, b4⟩ := BD.out (j + 1)
    have l1 := Ten.lz_bd x j
    have l2 := Ten.lz_bd y j
    have zy := HY.out j
    have HSC := Lib.hid (dl_succ (x - y) j)
    have hlz := Ten.lz_bd (x - y) j
    have hln : ((Ten.lz (x - y) j).toNat : Int) = Ten.lz (x - y) j := by omega
    have HLN := Lib.hid hln
    have hcx : j < n → ∃ g o, a = some ⟨g, o, none⟩ ∧ wr.cell? ⟨g, o + j, none⟩ = some (.int .i64 (Ten.lz x j)) := fun h => by
      obtain ⟨g, o, e, hg, hc⟩ := HA.out (by omega)
      exact ⟨g, o, e, (below_at hbe (o + j) hg).trans (hc j h)⟩
    have hcy : j < k → ∃ g o, b = some ⟨g, o, none⟩ ∧ wr.cell? ⟨g, o + j, none⟩ = some (.int .i64 (Ten.lz y j)) := fun h => by
      obtain ⟨g, o, e, hg, hc⟩ := HB.out (by omega)
      exact ⟨g, o, e, (below_at hbe (o + j) hg).trans (hc j h)⟩
    clear hln
    obtain ⟨cz, hcz0⟩ : ∃ q, q = bw x y (j + 1) := ⟨_, rfl⟩
    rw [← hcz0] at s2 b3 b4
    generalize bw x y j = cy at *
    generalize Ten.lz (x - y) j = lo at *
    generalize Ten.lz x j = lx at *
    generalize Ten.lz y j = ly at *
    by_cases h1 : j < n
    · obtain ⟨g1, o1, rfl, c1⟩ := hcx h1
      by_cases h2 : j < k
      · obtain ⟨g2, o2, rfl, c2⟩ := hcy h2
        clear hcx hcy zy
        by_cases h3 : lx - cy - ly < 0
        · have HS1 : Hid ((lx - cy - ly) + 10 = lo) := Lib.hid (by omega)
          have HS2 : Hid (1 = bw x y (j + 1)) := Lib.hid (by rw [← hcz0]; omega)
          have hq : lx - cy - ly < 0 := by omega
          clear s1 s2 hcz0 b3 b4
          go_wp2_with (at_builtin; refine wpList_append_own _ rfl _ _ 133 rfl w.heap.size 3 i0 (.int .i64 0) 1 8 und64i hi hz0 hz1 hz2 rfl (by decide) _ _ _ rfl (hown.alloc _) ⟨wr.heap.size, 0, none⟩ 1 1 [.int .i64 ((lx - cy - ly) + 10)] rfl rfl (by
              intro q u hq
              match q, hq with
              | 0, hq => simp at hq; subst hq; simp [Addr.add]) (by intro u hu; simp at hu; subst hu; rfl) (by unfold maxLen; omega) (by omega) (by simp; omega) ?_)
          · intro v' w1 hown' hgrow _
            have R1 : w1.ownsRow w.heap.size 3 1 v' (j + 1) (vals (dl (x - y) (j + 1))) := by
              rw [HSC.out, vals_snoc, HLN.out, ← HS1.out]
              exact hown'
            have R2 : Below w.heap.size w w1 := (hbe.alloc hbe.size _).grown hgrow (by simp; omega) (own8_ge hown)
            clear hown' hgrow hown hbe
            go_wp2
            go_roundw
            case rel => exact ⟨j + 1, by omega, by go_num, by rw [← HS2.out], R1, R2⟩
            case measure => simp [intOf] <;> omega
        · have HS1 : Hid (lx - cy - ly = lo) := Lib.hid (by omega)
          have HS2 : Hid (0 = bw x y (j + 1)) := Lib.hid (by rw [← hcz0]; omega)
          have hq : ¬ lx - cy - ly < 0 := by omega
          clear s1 s2 hcz0 b3 b4
          go_wp2_with (at_builtin; refine wpList_append_own _ rfl _ _ 133 rfl w.heap.size 3 i0 (.int .i64 0) 1 8 und64i hi hz0 hz1 hz2 rfl (by decide) _ _ _ rfl (hown.alloc _) ⟨wr.heap.size, 0, none⟩ 1 1 [.int .i64 (lx - cy - ly)] rfl rfl (by
              intro q u hq
              match q, hq with
              | 0, hq => simp at hq; subst hq; simp [Addr.add]) (by intro u hu; simp at hu; subst hu; rfl) (by unfold maxLen; omega) (by omega) (by simp; omega) ?_)
          · intro v' w1 hown' hgrow _
            have R1 : w1.ownsRow w.heap.size 3 1 v' (j + 1) (vals (dl (x - y) (j + 1))) := by
              rw [HSC.out, vals_snoc, HLN.out, ← HS1.out]
              exact hown'
            have R2 : Below w.heap.size w w1 := (hbe.alloc hbe.size _).grown hgrow (by simp; omega) (own8_ge hown)
            clear hown' hgrow hown hbe
            go_wp2
            go_roundw
            case rel => exact ⟨j + 1, by omega, by go_num, by rw [← HS2.out], R1, R2⟩
            case measure => simp [intOf] <;> omega
      · have e2 := zy h2
        rw [e2, Int.sub_zero] at s1 s2
        clear hcx hcy zy e2 l2
        by_cases h3 : lx - cy < 0
        · have HS1 : Hid ((lx - cy) + 10 = lo) := Lib.hid (by omega)
          have HS2 : Hid (1 = bw x y (j + 1)) := Lib.hid (by rw [← hcz0]; omega)
          have hq : lx - cy < 0 := by omega
          clear s1 s2 hcz0 b3 b4
          go_wp2_with (at_builtin; refine wpList_append_own _ rfl _ _ 133 rfl w.heap.size 3 i0 (.int .i64 0) 1 8 und64i hi hz0 hz1 hz2 rfl (by decide) _ _ _ rfl (hown.alloc _) ⟨wr.heap.size, 0, none⟩ 1 1 [.int .i64 ((lx - cy) + 10)] rfl rfl (by
              intro q u hq
              match q, hq with
              | 0, hq => simp at hq; subst hq; simp [Addr.add]) (by intro u hu; simp at hu; subst hu; rfl) (by unfold maxLen; omega) (by omega) (by simp; omega) ?_)
          · intro v' w1 hown' hgrow _
            have R1 : w1.ownsRow w.heap.size 3 1 v' (j + 1) (vals (dl (x - y) (j + 1))) := by
              rw [HSC.out, vals_snoc, HLN.out, ← HS1.out]
              exact hown'
            have R2 : Below w.heap.size w w1 := (hbe.alloc hbe.size _).grown hgrow (by simp; omega) (own8_ge hown)
            clear hown' hgrow hown hbe
            go_wp2
            go_roundw
            case rel => exact ⟨j + 1, by omega, by go_num, by rw [← HS2.out], R1, R2⟩
            case measure => simp [intOf] <;> omega
        · have HS1 : Hid (lx - cy = lo) := Lib.hid (by omega)
          have HS2 : Hid (0 = bw x y (j + 1)) := Lib.hid (by rw [← hcz0]; omega)
          have hq : ¬ lx - cy < 0 := by omega
          clear s1 s2 hcz0 b3 b4
          go_wp2_with (at_builtin; refine wpList_append_own _ rfl _ _ 133 rfl w.heap.size 3 i0 (.int .i64 0) 1 8 und64i hi hz0 hz1 hz2 rfl (by decide) _ _ _ rfl (hown.alloc _) ⟨wr.heap.size, 0, none⟩ 1 1 [.int .i64 (lx - cy)] rfl rfl (by
              intro q u hq
              match q, hq with
              | 0, hq => simp at hq; subst hq; simp [Addr.add]) (by intro u hu; simp at hu; subst hu; rfl) (by unfold maxLen; omega) (by omega) (by simp; omega) ?_)
          · intro v' w1 hown' hgrow _
            have R1 : w1.ownsRow w.heap.size 3 1 v' (j + 1) (vals (dl (x - y) (j + 1))) := by
              rw [HSC.out, vals_snoc, HLN.out, ← HS1.out]
              exact hown'
            have R2 : Below w.heap.size w w1 := (hbe.alloc hbe.size _).grown hgrow (by simp; omega) (own8_ge hown)
            clear hown' hgrow hown hbe
            go_wp2
            go_roundw
            case rel => exact ⟨j + 1, by omega, by go_num, by rw [← HS2.out], R1, R2⟩
            case measure => simp [intOf] <;> omega
    · obtain rfl : j = n := by omega
      obtain ⟨a', c', hv, hc', hrow⟩ := row_own hown hxy0 HLT.out
      have hsome : 0 < j → ∃ g o, a' = some ⟨g, o, none⟩ ∧ w.heap.size ≤ g ∧ g < wr.heap.size := fun h0 => by
        obtain ⟨g, o, e, hg, _⟩ := hrow h0
        exact ⟨g, o, e, own8_ge hown g (by rw [hv, e]; rfl), hg⟩
      have HSM := Lib.hid hsome
      subst hv
      have TR := Lib.hid (rtrim_any a' j c' (x - y) wr hxy0 HLT.out hc' (by omega) hrow)
      have hnl : Ten.nl (x - y) ≤ j := Ten.nl_le HLT.out
      have HROW := Lib.hid (hrow.less hnl)
      have HBE := Lib.hid hbe
      have hcl : Ten.nl (x - y) ≤ c' := Nat.le_trans hnl hc'
      clear hown hrow hbe s1 s2 hcx hcy zy hcz0 hnl hsome
      go_wp2_with fail
      refine TR.out.mono ?_
      rintro e w' ⟨rfl, rfl⟩
      go_wp2
      go_ret
      exact ⟨_, _, rfl, hcl, hxy0, HROW.out, HBE.out, HSM.out⟩
end Go.Proofs.YtkhebidmfjbhaaaGreatDoor
namespace Go.Proofs.YtkhebidmfjbhaaaGreatDoor
open Go.RowKit

theorem ten_cmp {x y : Int} (k : Nat) (h : x / Ten.bp (k + 1) = y / Ten.bp (k + 1)) : Ten.lz x k < Ten.lz y k → x < y := by
  intro hl
  have e1 := Ten.div_split x k
  have e2 := Ten.div_split y k
  rcases Int.lt_or_le x y with h3 | h3
  · exact h3
  · have := Int.ediv_le_ediv (Ten.bp_pos k) h3
    omega
theorem ret_i {t s : Int} (h : t = s) : (Ending.returned (.int .i64 t)) = .returned (.int .i64 s) := by rw [h]
theorem rsize_long (a b : Option Addr) (n c k d : Nat) (x y : Int) (w : World) (hx0 : 0 ≤ x) (hy0 : 0 ≤ y) (hn : n = Ten.nl x) (hk : k = Ten.nl y) (_hn' : n ≤ 100000) (_hk' : k ≤ 100000) (hnk : n ≠ k) :
    Calls Tryz.prog 160 #[.slice a n c, .slice b k d] w (GivesI (cmp3 x y) w) := by
  rcases Nat.lt_or_ge n k with h | h
  · have hlt : x < y := by
      rcases Int.lt_or_le x y with h3 | h3
      · exact h3
      · have := Ten.nl_mono hx0 h3; omega
    have hi : (n : Int) < (k : Int) := by omega
    have hne : ((n : Int) != (k : Int)) = true := by rw [bne_iff_ne]; omega
    rw [cmp3_lt hlt]
    clear hn hk hlt h hnk
    go_enter Tryz.func160, Tryz.ntmps160
    go_wp2
    go_ret
    exact ⟨rfl, Below.refl _ _⟩
  · have hlt : y < x := by
      rcases Int.lt_or_le y x with h3 | h3
      · exact h3
      · have := Ten.nl_mono hy0 h3; omega
    have hi : ¬ (n : Int) < (k : Int) := by omega
    have hne : ((n : Int) != (k : Int)) = true := by rw [bne_iff_ne]; omega
    rw [cmp3_gt hlt]
    clear hn hk hlt h hnk
    go_enter Tryz.func160, Tryz.ntmps160
    go_wp2
    go_ret
    exact ⟨rfl, Below.refl _ _⟩
set_option maxHeartbeats 2000000 in
set_option maxRecDepth 100000 in
theorem rsize_same (a b : Option Addr) (n c d : Nat) (x y : Int) (w : World) (hx0 : 0 ≤ x) (hy0 : 0 ≤ y) (hx : x < Ten.bp n) (hy : y < Ten.bp n) (hn' : n ≤ 100000)
    (ha : RowD w w.heap.size a n x) (hb : RowD w w.heap.size b n y) :
    Calls Tryz.prog 160 #[.slice a n c, .slice b n d] w (GivesI (cmp3 x y) w) := by
  have HA := Lib.hid ha
  have HB := Lib.hid hb
  have H0 := Lib.hid (show x / Ten.bp n = y / Ten.bp n by rw [Ten.div_zero hx0 hx, Ten.div_zero hy0 hy])
  have hne : ((n : Int) != (n : Int)) = false := by rw [bne_eq_false_iff_eq]
  clear ha hb hx hy hx0 hy0
  go_enter Tryz.func160, Tryz.ntmps160
  go_wp2_with fail
  go_loopw [5] (fun i wr => ∃ k q : Nat, k ≤ n ∧ i = .int .i64 ((k : Int) - 1) ∧ Hid (x / Ten.bp k = y / Ten.bp k) ∧ wr = w.drewN q) (fun i _ => (intOf i + 1).toNat)
  case atStart => exact ⟨n, 0, by omega, rfl, H0, rfl⟩
  case round =>
    clear H0
    obtain ⟨k, q, hk, rfl, HK, rfl⟩ := hrel
    rcases Nat.eq_zero_or_pos k with hk0 | hk0
    · subst hk0
      have hxy : x = y := by have := HK.out; rwa [Ten.div_bp_zero, Ten.div_bp_zero] at this
      go_wp2
      go_ret
      exact ⟨ret_i (by rw [hxy, cmp3_eq]), below_drewN (Below.refl _ _) _⟩
    · obtain ⟨g, o, rfl, hg, hcx⟩ := HA.out (by omega)
      obtain ⟨g', o', rfl, hg', hcy⟩ := HB.out (by omega)
      have h1 := hcx (k - 1) (by omega)
      have h2 := hcy (k - 1) (by omega)
      clear hcx hcy
      obtain ⟨W, hW⟩ : ∃ W, W = w.drewN q := ⟨_, rfl⟩
      have h1' : W.cell? ⟨g, o + (k - 1), none⟩ = some (.int .i64 (Ten.lz x (k - 1))) := by rw [hW]; exact h1
      have h2' : W.cell? ⟨g', o' + (k - 1), none⟩ = some (.int .i64 (Ten.lz y (k - 1))) := by rw [hW]; exact h2
      have HBW := Lib.hid (below_drewN (Below.refl w.heap.size w) q)
      rw [← hW] at HBW ⊢
      have HW := Lib.hid hW
      clear hW HA HB h1 h2
      have i1 : (0 : Int) ≤ (k : Int) - 1 := by omega
      have i2 : (k : Int) - 1 < (n : Int) := by omega
      have hk1 := Lib.hid (show k - 1 + 1 = k by omega)
      have hd1 := ten_cmp (x := x) (y := y) (k - 1) (by rw [hk1.out]; exact HK.out)
      have hd2 := ten_cmp (x := y) (y := x) (k - 1) (by rw [hk1.out]; exact HK.out.symm)
      have hd3 : Ten.lz x (k - 1) = Ten.lz y (k - 1) → x / Ten.bp (k - 1) = y / Ten.bp (k - 1) := fun e => by
        rw [Ten.div_split x, Ten.div_split y, hk1.out, HK.out, e]
      have D1 := Lib.hid hd1
      have D2 := Lib.hid hd2
      have D3 := Lib.hid hd3
      clear hd1 hd2 hd3
      generalize Ten.lz x (k - 1) = lx at *
      generalize Ten.lz y (k - 1) = ly at *
      rcases Int.lt_trichotomy lx ly with h | h | h
      · go_wp2_with fail
        go_quiet (fail)
        go_wp2
        go_ret
        exact ⟨ret_i (cmp3_lt (D1.out h)).symm, below_drewN HBW.out _⟩
      · subst h
        have hn1 : ¬ lx < lx := by omega
        go_wp2_with fail
        go_quiet (fail)
        go_wp2_with fail
        go_quiet (fail)
        go_wp2
        go_roundw
        case rel => exact ⟨k - 1, _, by omega, by go_num, D3.out (by first | rfl | trivial), by rw [HW.out, World.drewN_drewN]⟩
        case measure => simp [intOf]; omega
      · have hn1 : ¬ lx < ly := by omega
        go_wp2_with fail
        go_quiet (fail)
        go_wp2_with fail
        go_quiet (fail)
        go_wp2
        go_ret
        exact ⟨ret_i (cmp3_gt (D2.out h)).symm, below_drewN (below_drewN HBW.out _) _⟩
theorem rsize_any (a b : Option Addr) (n c k d : Nat) (x y : Int) (w : World) (hx0 : 0 ≤ x) (hy0 : 0 ≤ y) (hn : n = Ten.nl x) (hk : k = Ten.nl y) (hn' : n ≤ 100000) (hk' : k ≤ 100000)
    (ha : RowD w w.heap.size a n x) (hb : RowD w w.heap.size b k y) :
    Calls Tryz.prog 160 #[.slice a n c, .slice b k d] w (GivesI (cmp3 x y) w) := by
  by_cases h : n = k
  · subst h
    exact rsize_same a b n c d x y w hx0 hy0 (by rw [hn]; exact Ten.nl_lt hx0) (by rw [hk]; exact Ten.nl_lt hy0) hn' ha hb
  · exact rsize_long a b n c k d x y w hx0 hy0 hn hk hn' hk' h
end Go.Proofs.YtkhebidmfjbhaaaGreatDoor
namespace Go.Proofs.YtkhebidmfjbhaaaGreatDoor
open Go.RowKit

theorem rDigits_neg (z : Int) (w : World) (hz : z < 0) (hd : dn z ≤ 100000) :
    Calls Tryz.prog 176 #[.string (tx z)] w fun e w' => e = .returned (.int .i64 (dn z)) ∧ w = w' := by
  have hsz := tx_size z
  rw [if_pos hz] at hsz
  have hb := tx_first z hz
  obtain ⟨T, hT⟩ : ∃ T, T = tx z := ⟨_, rfl⟩
  rw [← hT] at hsz hb ⊢
  have hT0 : 0 < T.size := by omega
  have hb0 : (((T[0]'hT0).toNat : Int) == 45) = true := by rw [hb hT0]; rfl
  have hn : (T.size : Int) - 1 = dn z := by omega
  have hm : T.size ≤ 100001 := by omega
  have HN := Lib.hid hn
  clear hb hT hsz hn hd hz
  go_enter Tryz.func176, Tryz.ntmps176
  go_wp2
  go_ret
  exact ⟨ret_i HN.out, rfl⟩
theorem rDigits_pos (z : Int) (w : World) (hz : ¬ z < 0) (hd : dn z ≤ 100000) :
    Calls Tryz.prog 176 #[.string (tx z)] w fun e w' => e = .returned (.int .i64 (dn z)) ∧ w = w' := by
  have hsz := tx_size z
  rw [if_neg hz] at hsz
  have hb := tx_first_not z hz
  have hp := dn_pos z
  obtain ⟨T, hT⟩ : ∃ T, T = tx z := ⟨_, rfl⟩
  rw [← hT] at hsz hb ⊢
  have hT0 : 0 < T.size := by omega
  have hb0 : (((T[0]'hT0).toNat : Int) == 45) = false := by rw [beq_eq_false_iff_ne]; have := hb hT0; omega
  have hn : (T.size : Int) = dn z := by omega
  have hm : T.size ≤ 100001 := by omega
  have HN := Lib.hid hn
  clear hb hT hsz hn hd hz hp
  go_enter Tryz.func176, Tryz.ntmps176
  go_wp2
  go_ret
  exact ⟨ret_i HN.out, rfl⟩
theorem rDigits_any (z : Int) (w : World) (hd : dn z ≤ 100000) :
    Calls Tryz.prog 176 #[.string (tx z)] w fun e w' => e = .returned (.int .i64 (dn z)) ∧ w = w' := by
  by_cases hz : z < 0
  · exact rDigits_neg z w hz hd
  · exact rDigits_pos z w hz hd
theorem rshort_no (z : Int) (w : World) (hd : dn z ≤ 100000) (h9 : 9 < dn z) :
    Calls Tryz.prog 162 #[.string (tx z)] w fun e w' => e = .returned (.tuple #[.int .i64 0, .bool false]) ∧ w = w' := by
  have D := Lib.hid (rDigits_any z w hd)
  have h9' : (9 : Int) < dn z := by omega
  obtain ⟨T, hT⟩ : ∃ T, T = tx z := ⟨_, rfl⟩
  rw [← hT] at D ⊢
  obtain ⟨n, hn⟩ : ∃ n : Int, n = dn z := ⟨_, rfl⟩
  rw [← hn] at D h9'
  clear hT hn hd h9
  go_enter Tryz.func162, Tryz.ntmps162
  go_wp2_with fail
  refine D.out.mono ?_
  rintro e w' ⟨rfl, rfl⟩
  go_wp2
  go_ret2
  exact ⟨rfl, rfl⟩
/-- The highest j of the m digits. -/
def hi9 (u : Int) (m j : Nat) : Int := u / Ten.bp (m - j)
set_option maxHeartbeats 2000000 in
set_option maxRecDepth 100000 in
theorem rshort_yes (z : Int) (w : World) (h9 : dn z ≤ 9) :
    Calls Tryz.prog 162 #[.string (tx z)] w fun e w' => e = .returned (.tuple #[.int .i64 z, .bool true]) ∧ w = w' := by
  have D := Lib.hid (rDigits_any z w (by omega))
  have hsz := tx_size z
  have hdig := tx_dig z
  have hfst := tx_first z
  have hfn := tx_first_not z
  have hp := dn_pos z
  have hlt := dn_lt (x := (z.natAbs : Int)) (by omega)
  rw [dn_abs] at hlt
  obtain ⟨U, hU⟩ : ∃ U : Int, U = z.natAbs := ⟨_, rfl⟩
  have hU0 : 0 ≤ U := by omega
  rw [← hU] at hlt hdig
  obtain ⟨m, hm⟩ : ∃ m, m = dn z := ⟨_, rfl⟩
  rw [← hm] at hsz hp hlt h9 D
  obtain ⟨T, hT⟩ : ∃ T, T = tx z := ⟨_, rfl⟩
  rw [← hT] at hsz hdig hfst hfn D ⊢
  have hT0 : 0 < T.size := by omega
  have hb0 : (((T[0]'hT0).toNat : Int) == 45) = decide (z < 0) := by
    by_cases h : z < 0
    · rw [decide_eq_true h, beq_iff_eq]; exact hfst h hT0
    · have := hfn h hT0
      rw [decide_eq_false h, beq_eq_false_iff_ne]; omega
  have h9' : ¬ (9 : Int) < m := by omega
  have HD := Lib.hid hdig
  have HF := Lib.hid hfst
  have HS := Lib.hid hsz
  have HU := Lib.hid hU
  have hTm : T.size ≤ 10 := by split at hsz <;> omega
  obtain ⟨f, hf⟩ : ∃ f : Nat, f = if z < 0 then 1 else 0 := ⟨_, rfl⟩
  have HFF := Lib.hid hf
  have hTf : T.size = m + f := by rw [hf]; exact hsz
  have hf1 : f ≤ 1 := by rw [hf]; split <;> omega
  have hst : hi9 U m 0 = 0 := by unfold hi9; rw [Nat.sub_zero, Ten.div_zero hU0 hlt]
  have hen : hi9 U m m = U := by unfold hi9; rw [Nat.sub_self, Ten.div_bp_zero]
  have hsu : ∀ j, j < m → 10 * hi9 U m j + Ten.lz U (m - 1 - j) = hi9 U m (j + 1) := fun j hj => by
    unfold hi9
    have := Ten.div_split U (m - (j + 1))
    rw [show m - (j + 1) + 1 = m - j by omega] at this
    rw [this, show m - 1 - j = m - (j + 1) by omega]
  have hbd : ∀ j, 0 ≤ hi9 U m j ∧ hi9 U m j < 1000000000 := fun j => by
    unfold hi9
    have h1 : U < Ten.bp 9 := Int.lt_of_lt_of_le hlt (Ten.bp_mono h9)
    have h2 : Ten.bp 9 = 1000000000 := by decide
    have h3 := Int.ediv_le_self (Ten.bp (m - j)) hU0
    have h4 := Int.ediv_nonneg hU0 (Int.le_of_lt (Ten.bp_pos (m - j)))
    omega
  have ST := Lib.hid hst
  have EN := Lib.hid hen
  have SU := Lib.hid hsu
  have BD := Lib.hid hbd
  have hzz : z < 0 ∧ -U = z ∨ ¬ z < 0 ∧ U = z := by omega
  have HZZ := Lib.hid hzz
  obtain ⟨sg, hsg⟩ : ∃ sg, sg = decide (z < 0) := ⟨_, rfl⟩
  rw [← hsg] at hb0
  have HSG := Lib.hid hsg
  clear hdig hfst hfn hsz hT hU hm hlt hf hst hen hsu hbd hzz hsg h9
  go_enter Tryz.func162, Tryz.ntmps162
  go_wp2_with fail
  refine D.out.mono ?_
  rintro e w' ⟨rfl, rfl⟩
  go_wp2
  go_loop [4, 5] (fun v i => ∃ k : Nat, k ≤ T.size ∧ i = .int .i64 k ∧ v = .int .i64 (hi9 U m (k - f))) (fun _ i => T.size - (intOf i).toNat)
  case atStart => exact ⟨0, by omega, rfl, by rw [Nat.zero_sub, ST.out]⟩
  case round =>
    obtain ⟨k, hk, rfl, rfl⟩ := hrel
    obtain ⟨b1, b2⟩ := BD.out (k - f)
    obtain ⟨q, hq⟩ : ∃ q, q = hi9 U m (k - f) := ⟨_, rfl⟩
    rw [← hq] at b1 b2 ⊢
    by_cases hlt : k < T.size
    · by_cases hkf : k < f
      · have hneg : z < 0 := by
          have := HFF.out
          split at this
          · assumption
          · omega
        have hk0 : k = 0 := by omega
        subst hk0
        have hne : (((T[0]'hlt).toNat : Int) != 45) = false := by rw [bne_eq_false_iff_eq]; exact HF.out hneg hlt
        have HQ := Lib.hid (hq.trans (congrArg (hi9 U m) (show 0 - f = 0 + 1 - f by omega)))
        clear hq hneg hkf b1 b2
        go_wp2
        go_round
        case rel => exact ⟨0 + 1, by omega, by go_num, by rw [← HQ.out]⟩
        case measure => simp [intOf]; omega
      · have hd := HD.out k hlt (fun hneg => by have := HFF.out; rw [if_pos hneg] at this; omega)
        have hl := Ten.lz_bd U (T.size - 1 - k)
        have hne : (((T[k]'hlt).toNat : Int) != 45) = true := by rw [bne_iff_ne]; omega
        have hs := SU.out (k - f) (by omega)
        rw [← hq, show m - 1 - (k - f) = T.size - 1 - k by omega, show k - f + 1 = k + 1 - f by omega] at hs
        generalize Ten.lz U (T.size - 1 - k) = l at *
        have hby : ((T[k]'hlt).toNat : Int) < 58 := by omega
        have hby2 : 48 ≤ ((T[k]'hlt).toNat : Int) := by omega
        have HQ : Hid (10 * q + ((T[k]'hlt).toNat : Int) - 48 = hi9 U m (k + 1 - f)) := Lib.hid (by omega)
        clear hq hs hd hl
        go_wp2
        go_round
        case rel => exact ⟨k + 1, by omega, by go_num, by rw [← HQ.out]⟩
        case measure => simp [intOf]; omega
    · have hkm : k - f = m := by omega
      rw [hkm, EN.out] at hq
      subst hq
      clear hkm
      cases sg with
      | true =>
        have hz : -q = z := by rcases HZZ.out with h | h; exact h.2; exact absurd HSG.out (by rw [decide_eq_false (by omega)]; decide)
        have HZ := Lib.hid hz
        clear hz
        go_wp2
        go_ret2
        exact ⟨by rw [← HZ.out]; rfl, rfl⟩
      | false =>
        have hz : q = z := by rcases HZZ.out with h | h; exact absurd HSG.out (by rw [decide_eq_true (by omega)]; decide); exact h.2
        have HZ := Lib.hid hz
        clear hz
        go_wp2
        go_ret2
        exact ⟨by rw [← HZ.out]; rfl, rfl⟩
end Go.Proofs.YtkhebidmfjbhaaaGreatDoor
namespace Go.Proofs.YtkhebidmfjbhaaaGreatDoor
open Go.RowKit

end Go.Proofs.YtkhebidmfjbhaaaGreatDoor
namespace Go.Proofs.YtkhebidmfjbhaaaGreatDoor
open Go.RowKit

theorem ten_div_pos {x : Int} {j : Nat} (h : 0 < x / Ten.bp j) (h0 : 0 ≤ x) (hx : x < Ten.bp 19) : j < 19 := by
  rcases Nat.lt_or_ge j 19 with c | c
  · exact c
  · rw [Ten.div_zero h0 (Int.lt_of_lt_of_le hx (Ten.bp_mono c))] at h
    omega
theorem ten_div_done {x : Int} {j : Nat} (h : ¬ 0 < x / Ten.bp j) (_h0 : 0 ≤ x) : x < Ten.bp j := by
  have hp := Ten.bp_pos j
  rcases Int.lt_or_le x (Ten.bp j) with c | c
  · exact c
  · have := Int.ediv_le_ediv hp c
    rw [Int.ediv_self (by omega)] at this
    omega
theorem ret_s {s t : ByteArray} (h : s = t) : (Ending.returned (.string s)) = .returned (.string t) := by rw [h]
set_option maxHeartbeats 2000000 in
set_option maxRecDepth 100000 in
theorem rnumber_pos (x : Int) (w : World) (hx0 : 0 ≤ x) (hx : x ≤ 9223372036854775807) :
    Calls Tryz.prog 92 #[.int .i64 x] w (GivesY (tx x) w) := by
  obtain ⟨i0, hi, hz0, hz1, hz2⟩ := info_parts infoI64
  have hb19 : x < Ten.bp 19 := Int.lt_of_le_of_lt hx (by decide)
  have HB := Lib.hid hb19
  have hown0 : w.ownsRow w.heap.size 3 1 (.slice none 0 0) 0 (vals (dl x 0)) := World.ownsRow_nil _ _ _ _
  have hneg : ¬ x < 0 := by omega
  have hz0' := Ten.div_bp_zero x
  have HTX := Lib.hid (fun (W : World) (a : Option Addr) (n c : Nat) (h1 : x < Ten.bp n) (h2 : n ≤ c) (h3 : n ≤ 1000000) (h4 : RowD W W.heap.size a n x) => rtext_any false a n c x W hx0 h1 h2 h3 h4)
  have HZ := Lib.hid hz0'
  clear hb19 hz0'
  go_enter Tryz.func92, Tryz.ntmps92
  go_wp2_with fail
  go_loopw [0, 6] (fun i v wr => ∃ j : Nat, j ≤ 19 ∧ i = .int .i64 (x / Ten.bp j) ∧ wr.ownsRow w.heap.size 3 1 v j (vals (dl x j)) ∧ Below w.heap.size w wr) (fun i _ _ => (intOf i).toNat)
  case atStart => exact ⟨0, by omega, by rw [HZ.out], hown0, Below.refl _ _⟩
  case round =>
    clear hown0
    obtain ⟨j, hj, rfl, hown, hbe⟩ := hrel
    have hws := hbe.size
    have hlen : (vals (dl x j)).length = j := by unfold vals; rw [List.length_map, dl_len]
    have s1 : x / Ten.bp j % 10 = Ten.lz x j := rfl
    have s2 : x / Ten.bp j / 10 = x / Ten.bp (j + 1) := (Ten.div_succ x j).symm
    have HSC := Lib.hid (dl_succ x j)
    have hlz := Ten.lz_bd x j
    have hln : ((Ten.lz x j).toNat : Int) = Ten.lz x j := by omega
    have HLN := Lib.hid hln
    have p1 := Int.ediv_nonneg hx0 (Int.le_of_lt (Ten.bp_pos j))
    have p2 : x / Ten.bp j ≤ 9223372036854775807 := Int.le_trans (Int.ediv_le_self _ hx0) hx
    have p3 : 0 < x / Ten.bp j → j < 19 := fun h => ten_div_pos h hx0 HB.out
    have p4 : ¬ 0 < x / Ten.bp j → x < Ten.bp j := fun h => ten_div_done h hx0
    have p5 : 0 < x / Ten.bp j → x / Ten.bp (j + 1) < x / Ten.bp j := fun h => by rw [Ten.div_succ]; omega
    have p6 := Int.ediv_nonneg hx0 (Int.le_of_lt (Ten.bp_pos (j + 1)))
    obtain ⟨q', hq'⟩ : ∃ q, q = x / Ten.bp (j + 1) := ⟨_, rfl⟩
    rw [← hq'] at s2 p5 p6
    have HQ := Lib.hid hq'
    clear hln hq'
    generalize x / Ten.bp j = q at *
    generalize Ten.lz x j = lo at *
    have S1 := Lib.hid s1
    have S2 := Lib.hid s2
    clear s1 s2
    by_cases h1 : 0 < q
    · have hj' := p3 h1
      have hlt := p5 h1
      clear p3 p4 p5
      go_wp2_with (at_builtin; refine wpList_append_own _ rfl _ _ 133 rfl w.heap.size 3 i0 (.int .i64 0) 1 8 und64i hi hz0 hz1 hz2 rfl (by decide) _ _ _ rfl (hown.alloc _) ⟨wr.heap.size, 0, none⟩ 1 1 [.int .i64 (q % 10)] rfl rfl (by
        intro t u ht
        match t, ht with
        | 0, ht => simp at ht; subst ht; simp [Addr.add]) (by intro u hu; simp at hu; subst hu; rfl) (by unfold maxLen; omega) (by omega) (by simp; omega) ?_)
      · intro v' w1 hown' hgrow _
        have R1 : w1.ownsRow w.heap.size 3 1 v' (j + 1) (vals (dl x (j + 1))) := by
          rw [HSC.out, vals_snoc, HLN.out, ← S1.out]
          exact hown'
        have R2 : Below w.heap.size w w1 := (hbe.alloc hbe.size _).grown hgrow (by simp; omega) (own8_ge hown)
        clear hown' hgrow hown hbe
        go_wp2
        go_roundw
        case rel => exact ⟨j + 1, by omega, by rw [← HQ.out, ← S2.out], R1, R2⟩
        case measure => have := S2.out; simp [intOf] <;> omega
    · have hlt := p4 h1
      obtain ⟨a', c', hv, hc', hrow⟩ := row_own hown hx0 hlt
      subst hv
      have TX := Lib.hid (HTX.out wr a' j c' hlt hc' (by omega) hrow)
      have HBE := Lib.hid hbe
      clear hown hrow hbe p3 p4 p5 hlt
      go_wp2_with fail
      refine TX.out.mono ?_
      rintro e w' ⟨rfl, hb⟩
      have B := Lib.hid (HBE.out.trans (hb.mono HBE.out.size))
      obtain ⟨T, hT⟩ : ∃ T, T = tx x := ⟨_, rfl⟩
      simp only [Bool.false_eq_true, if_false]
      rw [← hT]
      have HT := Lib.hid hT
      clear hb hT
      go_wp2
      go_ret
      exact ⟨ret_s HT.out, B.out⟩
theorem neg_quo {x : Int} (h : x < 0) : -(Int.tdiv x 10) = -x / 10 ∧ -(Int.tmod x 10) = -x % 10 := by
  have h1 := Int.neg_tdiv x 10
  have h2 := Int.neg_tmod x 10
  rw [← h1, ← h2, Int.tdiv_eq_ediv_of_nonneg (by omega), Int.tmod_eq_emod_of_nonneg (by omega)]
  exact ⟨rfl, rfl⟩
set_option maxHeartbeats 2000000 in
set_option maxRecDepth 100000 in
theorem rnumber_neg (z : Int) (w : World) (hz0 : z < 0) (hz : -9223372036854775808 ≤ z) :
    Calls Tryz.prog 92 #[.int .i64 z] w (GivesY (tx z) w) := by
  obtain ⟨i0, hi, hi0, hi1, hi2⟩ := info_parts infoI64
  obtain ⟨e1, e2⟩ := neg_quo hz0
  obtain ⟨x, hx⟩ : ∃ x, x = -z := ⟨_, rfl⟩
  rw [← hx] at e1 e2
  have hx0 : 0 < x := by omega
  have hxm : x ≤ 9223372036854775808 := by omega
  have hb19 : x < Ten.bp 19 := Int.lt_of_le_of_lt hxm (by decide)
  have HB := Lib.hid hb19
  have hown1 : w.ownsRow w.heap.size 3 1 (.slice none 0 0) 0 [] := World.ownsRow_nil _ _ _ _
  have hzx : -x = z := by omega
  have HTX := Lib.hid (fun (W : World) (a : Option Addr) (n c : Nat) (h1 : x < Ten.bp n) (h2 : n ≤ c) (h3 : n ≤ 1000000) (h4 : RowD W W.heap.size a n x) => rtext_any true a n c x W (by omega) h1 h2 h3 h4)
  have m0 : 0 ≤ x % 10 := Int.emod_nonneg _ (by decide)
  have m1 : x % 10 < 10 := Int.emod_lt_of_pos _ (by decide)
  have m2 : x / 10 ≤ 922337203685477580 := by omega
  have m3 : 0 ≤ x / 10 := by omega
  have hl0 : x % 10 = Ten.lz x 0 := by unfold Ten.lz; rw [Ten.div_bp_zero]
  have hq1 : x / 10 = x / Ten.bp 1 := by rw [Ten.bp_one]
  obtain ⟨r, hr⟩ : ∃ r, r = Int.tmod z 10 := ⟨_, rfl⟩
  obtain ⟨p, hp⟩ : ∃ p, p = Int.tdiv z 10 := ⟨_, rfl⟩
  rw [← hp] at e1
  rw [← hr] at e2
  obtain ⟨b1, b2⟩ : -9 ≤ r ∧ r ≤ 0 := by omega
  obtain ⟨b3, b4⟩ : -922337203685477580 ≤ p ∧ p ≤ 0 := by omega
  have hd1 : vals (dl x (0 + 1)) = [.int .i64 (-r)] := by
    rw [dl_succ]
    show [Value.int .i64 (((Ten.lz x 0).toNat : Nat) : Int)] = _
    rw [← hl0, ← e2]
    congr 2
    omega
  have HD1 := Lib.hid hd1
  have HP := Lib.hid (e1.trans hq1)
  have HR := Lib.hid hr
  have HPP := Lib.hid hp
  have HZX := Lib.hid hzx
  clear hb19 e1 e2 hx hzx m0 m1 m2 m3 hl0 hq1 hd1 hr hp
  go_enter Tryz.func92, Tryz.ntmps92
  go_upto_region 4 with fail
  rw [← HR.out, ← HPP.out]
  rw [IntWalk.wrap64_in (-r) ⟨by omega, by omega⟩]
  clear HR HPP
  go_wp2_with (at_builtin; refine wpList_append_own _ rfl _ _ 133 rfl w.heap.size 3 i0 (.int .i64 0) 1 8 und64i hi hi0 hi1 hi2 rfl (by decide) _ _ _ rfl (hown1.alloc _) ⟨w.heap.size, 0, none⟩ 1 1 [.int .i64 (-r)] rfl rfl (by
    intro t u ht
    match t, ht with
    | 0, ht => simp at ht; subst ht; simp [Addr.add]) (by intro u hu; simp at hu; subst hu; rfl) (by unfold maxLen; omega) (by omega) (by simp) ?_)
  intro v1 w1 hown' hgrow _
  have hown0 : w1.ownsRow w.heap.size 3 1 v1 (0 + 1) (vals (dl x (0 + 1))) := by rw [HD1.out]; exact hown'
  have hbe0 : Below w.heap.size w w1 := ((Below.refl _ _).alloc (Nat.le_refl _) _).grown hgrow (by simp) (own8_ge hown1)
  clear hown' hgrow hown1 HD1
  go_wp2_with fail
  go_loopw [3, 5] (fun i v wr => ∃ j : Nat, 1 ≤ j ∧ j ≤ 19 ∧ i = .int .i64 (x / Ten.bp j) ∧ wr.ownsRow w.heap.size 3 1 v j (vals (dl x j)) ∧ Below w.heap.size w wr) (fun i _ _ => (intOf i).toNat)
  case atStart => exact ⟨0 + 1, by omega, by omega, by rw [HP.out], hown0, hbe0⟩
  case round =>
    clear hown0 hbe0
    obtain ⟨j, hj1, hj, rfl, hown, hbe⟩ := hrel
    have hws := hbe.size
    have hlen : (vals (dl x j)).length = j := by unfold vals; rw [List.length_map, dl_len]
    have s1 : x / Ten.bp j % 10 = Ten.lz x j := rfl
    have s2 : x / Ten.bp j / 10 = x / Ten.bp (j + 1) := (Ten.div_succ x j).symm
    have HSC := Lib.hid (dl_succ x j)
    have hlz := Ten.lz_bd x j
    have hln : ((Ten.lz x j).toNat : Int) = Ten.lz x j := by omega
    have HLN := Lib.hid hln
    have p1 := Int.ediv_nonneg (Int.le_of_lt hx0) (Int.le_of_lt (Ten.bp_pos j))
    have p2 : x / Ten.bp j ≤ 922337203685477580 := by
      have := Ten.bp_mono hj1
      rw [Ten.bp_one] at this
      have h1 : x / Ten.bp j ≤ x / 10 := by
        apply Int.le_ediv_of_mul_le (by decide)
        have h2 := Int.ediv_mul_le x (b := Ten.bp j) (by have := Ten.bp_pos j; omega)
        have h3 := Int.mul_le_mul_of_nonneg_left this p1
        omega
      omega
    have p3 : 0 < x / Ten.bp j → j < 19 := fun h => ten_div_pos h (Int.le_of_lt hx0) HB.out
    have p4 : ¬ 0 < x / Ten.bp j → x < Ten.bp j := fun h => ten_div_done h (Int.le_of_lt hx0)
    have p5 : 0 < x / Ten.bp j → x / Ten.bp (j + 1) < x / Ten.bp j := fun h => by rw [Ten.div_succ]; omega
    have p6 := Int.ediv_nonneg (Int.le_of_lt hx0) (Int.le_of_lt (Ten.bp_pos (j + 1)))
    obtain ⟨q', hq'⟩ : ∃ q, q = x / Ten.bp (j + 1) := ⟨_, rfl⟩
    rw [← hq'] at s2 p5 p6
    have HQ := Lib.hid hq'
    clear hln hq'
    generalize x / Ten.bp j = q at *
    generalize Ten.lz x j = lo at *
    have S1 := Lib.hid s1
    have S2 := Lib.hid s2
    clear s1 s2
    by_cases h1 : 0 < q
    · have hj' := p3 h1
      have hlt := p5 h1
      clear p3 p4 p5
      go_wp2_with (at_builtin; refine wpList_append_own _ rfl _ _ 133 rfl w.heap.size 3 i0 (.int .i64 0) 1 8 und64i hi hi0 hi1 hi2 rfl (by decide) _ _ _ rfl (hown.alloc _) ⟨wr.heap.size, 0, none⟩ 1 1 [.int .i64 (q % 10)] rfl rfl (by
        intro t u ht
        match t, ht with
        | 0, ht => simp at ht; subst ht; simp [Addr.add]) (by intro u hu; simp at hu; subst hu; rfl) (by unfold maxLen; omega) (by omega) (by simp; omega) ?_)
      · intro v' w1 hown' hgrow _
        have R1 : w1.ownsRow w.heap.size 3 1 v' (j + 1) (vals (dl x (j + 1))) := by
          rw [HSC.out, vals_snoc, HLN.out, ← S1.out]
          exact hown'
        have R2 : Below w.heap.size w w1 := (hbe.alloc hbe.size _).grown hgrow (by simp; omega) (own8_ge hown)
        clear hown' hgrow hown hbe
        go_wp2
        go_roundw
        case rel => exact ⟨j + 1, by omega, by omega, by rw [← HQ.out, ← S2.out], R1, R2⟩
        case measure => have := S2.out; simp [intOf] <;> omega
    · have hlt := p4 h1
      obtain ⟨a', c', hv, hc', hrow⟩ := row_own hown (Int.le_of_lt hx0) hlt
      subst hv
      have TX := Lib.hid (HTX.out wr a' j c' hlt hc' (by omega) hrow)
      have HBE := Lib.hid hbe
      clear hown hrow hbe p3 p4 p5 hlt
      go_wp2_with fail
      refine TX.out.mono ?_
      rintro e w' ⟨rfl, hb⟩
      have B := Lib.hid (HBE.out.trans (hb.mono HBE.out.size))
      obtain ⟨T, hT⟩ : ∃ T, T = tx z := ⟨_, rfl⟩
      simp only [if_true]
      rw [HZX.out, ← hT]
      have HT := Lib.hid hT
      clear hb hT
      go_wp2
      go_ret
      exact ⟨ret_s HT.out, B.out⟩
theorem rnumber_any (z : Int) (w : World) (h1 : -9223372036854775808 ≤ z) (h2 : z ≤ 9223372036854775807) :
    Calls Tryz.prog 92 #[.int .i64 z] w (GivesY (tx z) w) := by
  rcases Int.lt_or_le z 0 with h | h
  · exact rnumber_neg z w h h1
  · exact rnumber_pos z w h h2
end Go.Proofs.YtkhebidmfjbhaaaGreatDoor
