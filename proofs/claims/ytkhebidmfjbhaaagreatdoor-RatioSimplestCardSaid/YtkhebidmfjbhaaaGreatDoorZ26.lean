/-
  What the reference's digits returns: the sign and the decimal digits of an integer's text.
  What the reference's sum returns: the digits of a sum.
  What the reference's difference returns: the digits of a difference.
  What the reference's size returns: the order of two numbers by their digits.
  What the reference's Digits and short return.
-/
import Derived.Test.YtkhebidmfjbhaaaGreatDoorZ25
namespace Go.Proofs.YtkhebidmfjbhaaaGreatDoor
open Go.RowKit

theorem tx_dig (z : Int) (t : Nat) (h : t < (tx z).size) (hp : z < 0 → 1 ≤ t) : (((tx z)[t]'h).toNat : Int) = 48 + Ten.lz z.natAbs ((tx z).size - 1 - t) := by
  have hs := tx_size z
  by_cases hz : z < 0
  · have h1 := hp hz
    obtain ⟨u, rfl⟩ : ∃ u, t = u + 1 := ⟨t - 1, by omega⟩
    rw [if_pos hz] at hs
    have hd : (td z.natAbs).size = dn z := by rw [td_size]; rfl
    have hu : u < (td z.natAbs).size := by omega
    have e : (tx z)[u + 1]'h = (td z.natAbs)[u]'hu := by
      show (Lib.itoa z).toArray[u + 1]'_ = (Lib.decDigits z.natAbs).toArray[u]'_
      simp [Lib.itoa, if_pos hz]
      rfl
    rw [e, td_lz, hd]
    congr 2
    omega
  · rw [if_neg hz] at hs
    have hd : (td z.natAbs).size = dn z := by rw [td_size]; rfl
    have e : (tx z)[t]'h = (td z.natAbs)[t]'(by omega) := by
      congr 1
      exact tx_pos (by omega)
    rw [e, td_lz, hd]
    congr 2
    omega
theorem tx_first (z : Int) (hz : z < 0) (h : 0 < (tx z).size) : (((tx z)[0]'h).toNat : Int) = 45 := by
  have e : (tx z)[0]'h = 45 := by
    show (Lib.itoa z).toArray[0]'_ = 45
    simp [Lib.itoa, if_pos hz]
  rw [e]
  rfl
theorem tx_first_not (z : Int) (hz : ¬ z < 0) (h : 0 < (tx z).size) : 48 ≤ (((tx z)[0]'h).toNat : Int) := by
  rw [tx_dig z 0 h (fun e => absurd e hz)]
  have := (Ten.lz_bd z.natAbs ((tx z).size - 1 - 0)).1
  omega
/-- The lowest j digits of u. -/
def dl (u : Int) (j : Nat) : List Nat := (List.range j).map fun t => (Ten.lz u t).toNat
theorem dl_len (u : Int) (j : Nat) : (dl u j).length = j := by unfold dl; simp
theorem dl_succ (u : Int) (j : Nat) : dl u (j + 1) = dl u j ++ [(Ten.lz u j).toNat] := by unfold dl; rw [List.range_succ, List.map_append]; rfl
theorem dl_lt (u : Int) (j : Nat) : ∀ d, d ∈ dl u j → d < 10 := by
  intro d hd
  unfold dl at hd
  obtain ⟨t, _, rfl⟩ := List.mem_map.1 hd
  have := Ten.lz_bd u t
  omega
theorem dv_dl {u : Int} {j : Nat} (h0 : 0 ≤ u) (h : u < Ten.bp j) : dv (dl u j) = u := by
  obtain ⟨a, b⟩ := dv_bd (dl u j) (dl_lt u j)
  rw [dl_len] at b
  refine Ten.lz_ext a b h0 h (fun k hk => ?_)
  rw [dv_lz _ (dl_lt u j) k (by rw [dl_len]; exact hk)]
  unfold dl
  have := Ten.lz_bd u k
  simp
  omega
/-- The call hands back the sign and the digits of z. -/
def GivesDg (z : Int) (w : World) (e : Ending) (w' : World) : Prop := ∃ a c, e = .returned (.tuple #[.bool (decide (z < 0)), .slice a (Ten.nl z.natAbs) c]) ∧ Ten.nl z.natAbs ≤ c ∧ RowD w' w'.heap.size a (Ten.nl z.natAbs) z.natAbs ∧ Below w.heap.size w w' ∧ ∃ g o, a = some ⟨g, o, none⟩ ∧ g < w'.heap.size
set_option maxHeartbeats 2000000 in
set_option maxRecDepth 100000 in
theorem rdigits_any (z : Int) (w : World) (hz : dn z ≤ 100000) : Calls Tryz.prog 156 #[.string (tx z)] w (GivesDg z w) := by
  obtain ⟨i0, hi, hz0, hz1, hz2⟩ := info_parts infoI64
  have hsz := tx_size z
  have hdp := dn_pos z
  have hlt := dn_lt (x := (z.natAbs : Int)) (by omega)
  rw [dn_abs] at hlt
  have hdig := tx_dig z
  have hfst := tx_first z
  have hfn := tx_first_not z
  obtain ⟨U, hU⟩ : ∃ U : Int, U = z.natAbs := ⟨_, rfl⟩
  have hU0 : 0 ≤ U := by omega
  rw [← hU] at hlt hdig
  obtain ⟨m, hm⟩ : ∃ m, m = dn z := ⟨_, rfl⟩
  rw [← hm] at hsz hdp hlt hz
  obtain ⟨T, hT⟩ : ∃ T, T = tx z := ⟨_, rfl⟩
  rw [← hT] at hsz hdig hfst hfn ⊢
  have HD := Lib.hid hdig
  have HU := Lib.hid hU
  have hT0 : 0 < T.size := by omega
  have hb0 : (((T[0]'hT0).toNat : Int) == 45) = decide (z < 0) := by
    by_cases h : z < 0
    · rw [decide_eq_true h, beq_iff_eq]; exact hfst h hT0
    · have := hfn h hT0
      rw [decide_eq_false h, beq_eq_false_iff_ne]; omega
  have HF := Lib.hid hfst
  have hown0 : w.ownsRow w.heap.size 3 1 (.slice none 0 0) 0 (vals (dl U 0)) := World.ownsRow_nil _ _ _ _
  obtain ⟨mn, hmn⟩ : ∃ b, b = decide (z < 0) := ⟨_, rfl⟩
  have HS : Hid (T.size = m + if z < 0 then 1 else 0) := Lib.hid hsz
  have hTm : T.size ≤ 100001 := by split at hsz <;> omega
  have HMM := Lib.hid hm
  unfold GivesDg
  rw [← hU, ← hmn]
  rw [← hmn] at hb0
  have HMN := Lib.hid hmn
  clear hdig hfst hfn hsz hT hU hm hmn
  go_enter Tryz.func156, Tryz.ntmps156
  go_wp2_with fail
  go_loopw [5, 6] (fun v i wr => ∃ r : Nat, r ≤ T.size ∧ i = .int .i64 ((T.size : Int) - 1 - r) ∧ wr.ownsRow w.heap.size 3 1 v (min r m) (vals (dl U (min r m))) ∧ Below w.heap.size w wr) (fun _ i _ => (intOf i + 1).toNat)
  case atStart => exact ⟨0, by omega, by go_num, by rw [Nat.zero_min]; exact hown0, Below.refl _ _⟩
  case round =>
    clear hown0
    obtain ⟨r, hr, rfl, hown, hb⟩ := hrel
    have hws := hb.size
    have hlen : (vals (dl U (min r m))).length = min r m := by unfold vals; rw [List.length_map, dl_len]
    by_cases hlt' : r < T.size
    · obtain ⟨t, ht⟩ : ∃ t : Nat, (t : Int) = (T.size : Int) - 1 - r := ⟨T.size - 1 - r, by omega⟩
      rw [← ht]
      have HT := Lib.hid ht
      have htl : t < T.size := by omega
      by_cases hrm : r < m
      · have hbyte := HD.out t htl (fun hneg => by have := HS.out; rw [if_pos hneg] at this; omega)
        have hbd := Ten.lz_bd U (T.size - 1 - t)
        have hne : (((T[t]'htl).toNat : Int) != 45) = true := by rw [bne_iff_ne]; omega
        have hrr : T.size - 1 - t = r := by omega
        rw [hrr] at hbyte hbd
        have hsub : ((T[t]'htl).toNat : Int) - 48 = (((Ten.lz U r).toNat : Nat) : Int) := by omega
        have hb1 : (0 : Int) ≤ ((T[t]'htl).toNat : Int) - 48 ∧ ((T[t]'htl).toNat : Int) - 48 < 10 := by omega
        obtain ⟨hb2, hb3⟩ := hb1
        have HSB := Lib.hid hsub
        have HSC := Lib.hid (dl_succ U r)
        have hmin : min r m = r := by omega
        have hmin2 : min (r + 1) m = r + 1 := by omega
        rw [hmin] at hown hlen
        have HM2 := Lib.hid hmin2
        clear hbyte hbd hrr hsub hmin hmin2 ht
        go_wp2_with (at_builtin; refine wpList_append_own _ rfl _ _ 133 rfl w.heap.size 3 i0 (.int .i64 0) 1 8 und64i hi hz0 hz1 hz2 rfl (by decide) _ _ _ rfl (hown.alloc _) ⟨wr.heap.size, 0, none⟩ 1 1 [.int .i64 (((T[t]'htl).toNat : Int) - 48)] rfl rfl ?c1 ?c2 ?c3 ?c4 ?c5 ?_)
        case c1 =>
          intro k u hk
          match k, hk with
          | 0, hk => simp at hk; subst hk; simp [Addr.add]
        case c2 => intro u hu; simp at hu; subst hu; rfl
        case c3 => unfold maxLen; omega
        case c4 => omega
        case c5 => simp; omega
        · intro v' w1 hown' hgrow _
          have R1 : w1.ownsRow w.heap.size 3 1 v' (min (r + 1) m) (vals (dl U (min (r + 1) m))) := by
            rw [HM2.out, HSC.out, vals_snoc, ← HSB.out]
            exact hown'
          have R2 : Below w.heap.size w w1 := (hb.alloc hb.size _).grown hgrow (by simp; omega) (own8_ge hown)
          clear hown' hgrow hown hb
          go_wp2
          go_roundw
          case rel => exact ⟨r + 1, by omega, by have := HT.out; go_num, R1, R2⟩
          case measure => (have := HT.out; simp [intOf] <;> omega)
      · have hneg : z < 0 := by
          have := HS.out
          split at this
          · assumption
          · omega
        have ht0 : t = 0 := by have := HS.out; rw [if_pos hneg] at this; omega
        subst ht0
        have hbyte := HF.out hneg htl
        have hne : (((T[0]'htl).toNat : Int) != 45) = false := by rw [hbyte]; rfl
        have hmin : min r m = m := by omega
        have hmin2 : min (r + 1) m = m := by omega
        rw [hmin] at hown
        have HM2 := Lib.hid hmin2
        clear hbyte hmin hmin2 ht
        go_wp2
        go_roundw
        case rel => exact ⟨r + 1, by omega, by have := HT.out; go_num, by rw [HM2.out]; exact hown, hb⟩
        case measure => (have := HT.out; simp [intOf] <;> omega)
    · have hrs : r = T.size := by omega
      have hmin : min r m = m := by have := HS.out; split at this <;> omega
      rw [hmin] at hown
      have hlb := dl_len U m
      have hown' : wr.ownsRow w.heap.size 3 1 u5 (dl U m).length (vals (dl U m)) := by rw [hlb]; exact hown
      obtain ⟨a, c, hv, hc, hrow⟩ := rowD_of_own hown' (dl_lt U m)
      rw [hlb, dv_dl hU0 hlt] at hrow
      rw [hlb] at hv hc
      subst hv
      have hnl : Ten.nl U ≤ c := Nat.le_trans (Ten.nl_le hlt) hc
      have TR := Lib.hid (rtrim_any a m c U wr hU0 hlt hc (by omega) hrow)
      have hsome : ∃ g o, a = some ⟨g, o, none⟩ ∧ g < wr.heap.size := by
        obtain ⟨g, o, e, hg, _⟩ := hrow (by omega)
        exact ⟨g, o, e, hg⟩
      have HSM := Lib.hid hsome
      have HROW : Hid (RowD wr wr.heap.size a (Ten.nl U) U) := Lib.hid (fun hn => by
        have hm' := Ten.nl_le hlt
        obtain ⟨g, o, e, hg, hcl⟩ := hrow (by omega)
        exact ⟨g, o, e, hg, fun j hj => hcl j (by omega)⟩)
      have HB := Lib.hid hb
      have hi1 : ¬ (0 : Int) ≤ (T.size : Int) - 1 - r := by omega
      clear hown hown' hrow hb hlb hmin hrs hsome
      go_wp2_with fail
      refine TR.out.mono ?_
      rintro e w' ⟨rfl, rfl⟩
      go_wp2
      go_ret2
      exact ⟨a, c, rfl, hnl, HROW.out, HB.out, HSM.out⟩
end Go.Proofs.YtkhebidmfjbhaaaGreatDoor
namespace Go.Proofs.YtkhebidmfjbhaaaGreatDoor
open Go.RowKit

/-- The call hands back at most L digits of x. -/
def GivesRow (x : Int) (L : Nat) (w : World) (e : Ending) (w' : World) : Prop := ∃ a n c, e = .returned (.slice a n c) ∧ n ≤ c ∧ n ≤ L ∧ 0 ≤ x ∧ x < Ten.bp n ∧ RowD w' w'.heap.size a n x ∧ Below w.heap.size w w'
theorem row_own {w : World} {B : Nat} {v : Value} {x : Int} {n : Nat} (h : w.ownsRow B 3 1 v n (vals (dl x n))) (h0 : 0 ≤ x) (h1 : x < Ten.bp n) : ∃ a c, v = .slice a n c ∧ n ≤ c ∧ RowD w w.heap.size a n x := by
  have h' : w.ownsRow B 3 1 v (dl x n).length (vals (dl x n)) := by rw [dl_len]; exact h
  obtain ⟨a, c, hv, hc, hr⟩ := rowD_of_own h' (dl_lt x n)
  rw [dl_len] at hv hc
  rw [dl_len, dv_dl h0 h1] at hr
  exact ⟨a, c, hv, hc, hr⟩
theorem lz_past {x : Int} {n i : Nat} (h0 : 0 ≤ x) (h : x < Ten.bp n) (hi : ¬ i < n) : Ten.lz x i = 0 := Ten.lz_high h0 h (by omega)
set_option maxHeartbeats 4000000 in
set_option maxRecDepth 100000 in
theorem rsum_any (a b : Option Addr) (n c k d : Nat) (x y : Int) (w : World) (hx0 : 0 ≤ x) (hx : x < Ten.bp n) (hy0 : 0 ≤ y) (hy : y < Ten.bp k) (hn : n ≤ 100000) (hk : k ≤ 100000)
    (ha : RowD w w.heap.size a n x) (hb : RowD w w.heap.size b k y) :
    Calls Tryz.prog 163 #[.slice a n c, .slice b k d] w (GivesRow (x + y) (max n k + 1) w) := by
  obtain ⟨i0, hi, hz0, hz1, hz2⟩ := info_parts infoI64
  have HA := Lib.hid ha
  have HB := Lib.hid hb
  have HX := Lib.hid (fun i => lz_past (i := i) hx0 hx)
  have HY := Lib.hid (fun i => lz_past (i := i) hy0 hy)
  have hst : ∀ i, (Ten.mx 1 1 x y i + (Ten.lz x i + Ten.lz y i)) % 10 = Ten.lz (x + y) i ∧ (Ten.mx 1 1 x y i + (Ten.lz x i + Ten.lz y i)) / 10 = Ten.mx 1 1 x y (i + 1) := fun i => by
    have h := Ten.mx_step 1 1 x y i
    simp only [Int.one_mul] at h
    exact h
  have ST := Lib.hid hst
  have BD := Lib.hid (fun i => Ten.mx_le (A := 1) (C := 1) x y i (by decide) (by decide))
  have hend : ∀ j, max n k ≤ j → Ten.mx 1 1 x y j = (x + y) / Ten.bp j := fun j hj => by
    have h := Ten.mx_end (A := 1) (C := 1) (x := x) (y := y) (n := j) hx0 (Int.lt_of_lt_of_le hx (Ten.bp_mono (by omega))) hy0 (Int.lt_of_lt_of_le hy (Ten.bp_mono (by omega)))
    simp only [Int.one_mul] at h
    exact h
  have hlast : Ten.mx 1 1 x y (max n k + 1) = 0 := by
    rw [hend _ (by omega)]
    refine Int.ediv_eq_zero_of_lt (by omega) ?_
    rw [Ten.bp_succ]
    have h1 := Ten.bp_mono (Nat.le_max_left n k)
    have h2 := Ten.bp_mono (Nat.le_max_right n k)
    omega
  have hfin : ∀ j, max n k ≤ j → Ten.mx 1 1 x y j = 0 → x + y < Ten.bp j := fun j hj h => by
    rw [hend j hj] at h
    have hp := Ten.bp_pos j
    rcases Int.lt_or_le (x + y) (Ten.bp j) with c | c
    · exact c
    · have := Int.ediv_le_ediv hp c
      rw [Int.ediv_self (by omega)] at this
      omega
  have FIN := Lib.hid hfin
  have LAST := Lib.hid hlast
  have M0 := Ten.mx_zero 1 1 x y
  have hown0 : w.ownsRow w.heap.size 3 1 (.slice none 0 0) 0 (vals (dl (x + y) 0)) := World.ownsRow_nil _ _ _ _
  have hxy0 : 0 ≤ x + y := by omega
  clear hst hend hfin hlast ha hb hx hy
  go_enter Tryz.func163, Tryz.ntmps163
  go_wp2_with fail
  go_loopw [5, 6, 7] (fun v q i wr => ∃ j : Nat, j ≤ max n k + 1 ∧ i = .int .i64 j ∧ q = .int .i64 (Ten.mx 1 1 x y j) ∧ wr.ownsRow w.heap.size 3 1 v j (vals (dl (x + y) j)) ∧ Below w.heap.size w wr) (fun _ _ i _ => max n k + 1 - (intOf i).toNat)
  case atStart => exact ⟨0, by omega, rfl, by rw [M0], hown0, Below.refl _ _⟩
  case round =>
    clear hown0 M0
    obtain ⟨j, hj, rfl, rfl, hown, hbe⟩ := hrel
    have hws := hbe.size
    have hlen : (vals (dl (x + y) j)).length = j := by unfold vals; rw [List.length_map, dl_len]
    obtain ⟨s1, s2⟩ := ST.out j
    obtain ⟨b1, b2⟩ := BD.out j
    obtain ⟨b3, b4⟩ := BD.out (j + 1)
    have l1 := Ten.lz_bd x j
    have l2 := Ten.lz_bd y j
    have zx := HX.out j
    have zy := HY.out j
    have HSC := Lib.hid (dl_succ (x + y) j)
    have hlz := Ten.lz_bd (x + y) j
    have hln : ((Ten.lz (x + y) j).toNat : Int) = Ten.lz (x + y) j := by omega
    have HLN := Lib.hid hln
    have hjm : j = max n k + 1 → Ten.mx 1 1 x y j = 0 := fun e => by rw [e]; exact LAST.out
    have hcx : j < n → ∃ g o, a = some ⟨g, o, none⟩ ∧ wr.cell? ⟨g, o + j, none⟩ = some (.int .i64 (Ten.lz x j)) := fun h => by
      obtain ⟨g, o, e, hg, hc⟩ := HA.out (by omega)
      exact ⟨g, o, e, (below_at hbe (o + j) hg).trans (hc j h)⟩
    have hcy : j < k → ∃ g o, b = some ⟨g, o, none⟩ ∧ wr.cell? ⟨g, o + j, none⟩ = some (.int .i64 (Ten.lz y j)) := fun h => by
      obtain ⟨g, o, e, hg, hc⟩ := HB.out (by omega)
      exact ⟨g, o, e, (below_at hbe (o + j) hg).trans (hc j h)⟩
    have hfj := FIN.out j
    clear hln
    generalize Ten.mx 1 1 x y j = cy at *
    obtain ⟨cz, hcze⟩ : ∃ q, q = Ten.mx 1 1 x y (j + 1) := ⟨_, rfl⟩
    rw [← hcze] at s2 b3 b4
    have hcz0 := hcze
    clear hcze
    generalize Ten.lz (x + y) j = lo at *
    generalize Ten.lz x j = lx at *
    generalize Ten.lz y j = ly at *
    by_cases h1 : j < n
    · obtain ⟨g1, o1, rfl, c1⟩ := hcx h1
      by_cases h2 : j < k
      · obtain ⟨g2, o2, rfl, c2⟩ := hcy h2
        rw [← Int.add_assoc] at s1 s2
        clear hcx hcy
        have HS1 := Lib.hid s1
        have HS2 := Lib.hid (s2.trans hcz0)
        clear s1 s2 hfj zx zy hjm hcz0
        go_wp2_with (at_builtin; refine wpList_append_own _ rfl _ _ 133 rfl w.heap.size 3 i0 (.int .i64 0) 1 8 und64i hi hz0 hz1 hz2 rfl (by decide) _ _ _ rfl (hown.alloc _) ⟨wr.heap.size, 0, none⟩ 1 1 [.int .i64 ((cy + lx + ly) % 10)] rfl rfl ?c1 ?c2 ?c3 ?c4 ?c5 ?_)
        case c1 =>
          intro q u hq
          match q, hq with
          | 0, hq => simp at hq; subst hq; simp [Addr.add]
        case c2 => intro u hu; simp at hu; subst hu; rfl
        case c3 => unfold maxLen; omega
        case c4 => omega
        case c5 => simp; omega
        · intro v' w1 hown' hgrow _
          have R1 : w1.ownsRow w.heap.size 3 1 v' (j + 1) (vals (dl (x + y) (j + 1))) := by
            rw [HSC.out, vals_snoc, HLN.out, ← HS1.out]
            exact hown'
          have R2 : Below w.heap.size w w1 := (hbe.alloc hbe.size _).grown hgrow (by simp; omega) (own8_ge hown)
          clear hown' hgrow hown hbe
          go_wp2
          go_roundw
          case rel => exact ⟨j + 1, by omega, by go_num, by rw [← HS2.out], R1, R2⟩
          case measure => simp [intOf] <;> omega
      · have e2 := zy h2
        rw [e2, Int.add_zero] at s1 s2
        clear hcx hcy
        have HS1 := Lib.hid s1
        have HS2 := Lib.hid (s2.trans hcz0)
        clear s1 s2 hfj zx zy hjm hcz0
        go_wp2_with (at_builtin; refine wpList_append_own _ rfl _ _ 133 rfl w.heap.size 3 i0 (.int .i64 0) 1 8 und64i hi hz0 hz1 hz2 rfl (by decide) _ _ _ rfl (hown.alloc _) ⟨wr.heap.size, 0, none⟩ 1 1 [.int .i64 ((cy + lx) % 10)] rfl rfl ?c1 ?c2 ?c3 ?c4 ?c5 ?_)
        case c1 =>
          intro q u hq
          match q, hq with
          | 0, hq => simp at hq; subst hq; simp [Addr.add]
        case c2 => intro u hu; simp at hu; subst hu; rfl
        case c3 => unfold maxLen; omega
        case c4 => omega
        case c5 => simp; omega
        · intro v' w1 hown' hgrow _
          have R1 : w1.ownsRow w.heap.size 3 1 v' (j + 1) (vals (dl (x + y) (j + 1))) := by
            rw [HSC.out, vals_snoc, HLN.out, ← HS1.out]
            exact hown'
          have R2 : Below w.heap.size w w1 := (hbe.alloc hbe.size _).grown hgrow (by simp; omega) (own8_ge hown)
          clear hown' hgrow hown hbe
          go_wp2
          go_roundw
          case rel => exact ⟨j + 1, by omega, by go_num, by rw [← HS2.out], R1, R2⟩
          case measure => simp [intOf] <;> omega
    · have e1 := zx h1
      by_cases h2 : j < k
      · obtain ⟨g2, o2, rfl, c2⟩ := hcy h2
        rw [e1, Int.zero_add] at s1 s2
        clear hcx hcy
        have HS1 := Lib.hid s1
        have HS2 := Lib.hid (s2.trans hcz0)
        clear s1 s2 hfj zx zy hjm hcz0
        go_wp2_with (at_builtin; refine wpList_append_own _ rfl _ _ 133 rfl w.heap.size 3 i0 (.int .i64 0) 1 8 und64i hi hz0 hz1 hz2 rfl (by decide) _ _ _ rfl (hown.alloc _) ⟨wr.heap.size, 0, none⟩ 1 1 [.int .i64 ((cy + ly) % 10)] rfl rfl ?c1 ?c2 ?c3 ?c4 ?c5 ?_)
        case c1 =>
          intro q u hq
          match q, hq with
          | 0, hq => simp at hq; subst hq; simp [Addr.add]
        case c2 => intro u hu; simp at hu; subst hu; rfl
        case c3 => unfold maxLen; omega
        case c4 => omega
        case c5 => simp; omega
        · intro v' w1 hown' hgrow _
          have R1 : w1.ownsRow w.heap.size 3 1 v' (j + 1) (vals (dl (x + y) (j + 1))) := by
            rw [HSC.out, vals_snoc, HLN.out, ← HS1.out]
            exact hown'
          have R2 : Below w.heap.size w w1 := (hbe.alloc hbe.size _).grown hgrow (by simp; omega) (own8_ge hown)
          clear hown' hgrow hown hbe
          go_wp2
          go_roundw
          case rel => exact ⟨j + 1, by omega, by go_num, by rw [← HS2.out], R1, R2⟩
          case measure => simp [intOf] <;> omega
      · have e2 := zy h2
        rw [e1, e2, Int.add_zero, Int.add_zero] at s1 s2
        by_cases h3 : 0 < cy
        · have hjj : j ≤ max n k := by
            rcases Nat.lt_or_ge (max n k) j with q | q
            · have := hjm (by omega)
              omega
            · exact q
          clear hcx hcy
          have HS1 := Lib.hid s1
          have HS2 := Lib.hid (s2.trans hcz0)
          clear s1 s2 hfj zx zy hjm hcz0
          go_wp2_with (at_builtin; refine wpList_append_own _ rfl _ _ 133 rfl w.heap.size 3 i0 (.int .i64 0) 1 8 und64i hi hz0 hz1 hz2 rfl (by decide) _ _ _ rfl (hown.alloc _) ⟨wr.heap.size, 0, none⟩ 1 1 [.int .i64 ((cy) % 10)] rfl rfl ?c1 ?c2 ?c3 ?c4 ?c5 ?_)
          case c1 =>
            intro q u hq
            match q, hq with
            | 0, hq => simp at hq; subst hq; simp [Addr.add]
          case c2 => intro u hu; simp at hu; subst hu; rfl
          case c3 => unfold maxLen; omega
          case c4 => omega
          case c5 => simp; omega
          · intro v' w1 hown' hgrow _
            have R1 : w1.ownsRow w.heap.size 3 1 v' (j + 1) (vals (dl (x + y) (j + 1))) := by
              rw [HSC.out, vals_snoc, HLN.out, ← HS1.out]
              exact hown'
            have R2 : Below w.heap.size w w1 := (hbe.alloc hbe.size _).grown hgrow (by simp; omega) (own8_ge hown)
            clear hown' hgrow hown hbe
            go_wp2
            go_roundw
            case rel => exact ⟨j + 1, by omega, by go_num, by rw [← HS2.out], R1, R2⟩
            case measure => simp [intOf] <;> omega
        · have hcz : cy = 0 := by omega
          have hlt := hfj (by omega) hcz
          obtain ⟨a', c', hv, hc', hrow⟩ := row_own hown hxy0 hlt
          subst hv
          have HROW := Lib.hid hrow
          have HBE := Lib.hid hbe
          have HLT := Lib.hid hlt
          clear hown hrow hbe s1 s2 hcx hcy zx zy hjm hfj hlt hcz hcz0
          go_wp2
          go_ret
          exact ⟨_, _, _, rfl, hc', hj, hxy0, HLT.out, HROW.out, HBE.out⟩
end Go.Proofs.YtkhebidmfjbhaaaGreatDoor
namespace Go.Proofs.YtkhebidmfjbhaaaGreatDoor
open Go.RowKit

/-- The borrow at place i of x - y. -/
def bw (x y : Int) (i : Nat) : Int := - Ten.mx 1 (-1) x y i
theorem bw_bd (x y : Int) (i : Nat) : 0 ≤ bw x y i ∧ bw x y i ≤ 1 := by
  unfold bw Ten.mx
  have hp := Ten.bp_pos i
  obtain ⟨a1, a2⟩ := Ten.mod_bd x i
  obtain ⟨b1, b2⟩ := Ten.mod_bd y i
  rw [Int.one_mul, Int.neg_mul, Int.one_mul]
  generalize x % Ten.bp i = p at *
  generalize y % Ten.bp i = q at *
  rcases Int.lt_or_le p q with h | h
  · have e : (p + -q) / Ten.bp i = -1 := by
      have e1 : p + -q = (p + -q + Ten.bp i) + Ten.bp i * -1 := by omega
      rw [e1, Int.add_mul_ediv_left _ _ (by omega), Int.ediv_eq_zero_of_lt (by omega) (by omega)]
      rfl
    rw [e]
    omega
  · rw [Int.ediv_eq_zero_of_lt (by omega) (by omega)]
    omega
theorem bw_step (x y : Int) (i : Nat) : (Ten.lz x i - bw x y i - Ten.lz y i) % 10 = Ten.lz (x - y) i ∧ (Ten.lz x i - bw x y i - Ten.lz y i) / 10 = - bw x y (i + 1) := by
  have h := Ten.mx_step 1 (-1) x y i
  rw [Int.one_mul, Int.neg_mul, Int.one_mul, Int.one_mul, Int.neg_mul, Int.one_mul] at h
  unfold bw
  rw [show Ten.lz x i - -Ten.mx 1 (-1) x y i - Ten.lz y i = Ten.mx 1 (-1) x y i + (Ten.lz x i + -Ten.lz y i) by omega, show x - y = x + -y by omega]
  exact ⟨h.1, by rw [h.2]; omega⟩
/-- The call hands back the digits of x, no more than it has, in a row of its own. -/
def GivesTrim (n : Nat) (x : Int) (w : World) (e : Ending) (w' : World) : Prop := ∃ a c, e = .returned (.slice a (Ten.nl x) c) ∧ Ten.nl x ≤ c ∧ 0 ≤ x ∧ RowD w' w'.heap.size a (Ten.nl x) x ∧ Below w.heap.size w w' ∧ (0 < n → ∃ g o, a = some ⟨g, o, none⟩ ∧ w.heap.size ≤ g ∧ g < w'.heap.size)
theorem RowD.less {w : World} {B n m : Nat} {a : Option Addr} {x : Int} (h : RowD w B a n x) (hm : m ≤ n) : RowD w B a m x := fun h0 => by
  obtain ⟨g, o, e, hg, hc⟩ := h (by omega)
  exact ⟨g, o, e, hg, fun j hj => hc j (by omega)⟩
set_option maxHeartbeats 4000000 in
set_option maxRecDepth 100000 in
theorem rdiff_any (a b : Option Addr) (n c k d : Nat) (x y : Int) (w : World) (_hx0 : 0 ≤ x) (hx : x < Ten.bp n) (hy0 : 0 ≤ y) (hy : y < Ten.bp k) (hyx : y ≤ x) (hn : n ≤ 100000) (_hk : k ≤ 100000)
    (ha : RowD w w.heap.size a n x) (hb : RowD w w.heap.size b k y) :
    Calls Tryz.prog 164 #[.slice a n c, .slice b k d] w (GivesTrim n (x - y) w) := by
  obtain ⟨i0, hi, hz0, hz1, hz2⟩ := info_parts infoI64
  have HA := Lib.hid ha
  have HB := Lib.hid hb
  have HY := Lib.hid (fun i => lz_past (i := i) hy0 hy)
  have ST := Lib.hid (bw_step x y)
  have BD := Lib.hid (bw_bd x y)
  have M0 : bw x y 0 = 0 := by unfold bw; rw [Ten.mx_zero]; rfl
  have hown0 : w.ownsRow w.heap.size 3 1 (.slice none 0 0) 0 (vals (dl (x - y) 0)) := World.ownsRow_nil _ _ _ _
  have hxy0 : 0 ≤ x - y := by omega
  have hlt : x - y < Ten.bp n := by omega
  have HLT := Lib.hid hlt
  clear ha hb hx hy hlt
  go_enter Tryz.func164, Tryz.ntmps164
  go_wp2_with fail
  go_loopw [5, 6, 7] (fun v q i wr => ∃ j : Nat, j ≤ n ∧ i = .int .i64 j ∧ q = .int .i64 (bw x y j) ∧ wr.ownsRow w.heap.size 3 1 v j (vals (dl (x - y) j)) ∧ Below w.heap.size w wr) (fun _ _ i _ => n - (intOf i).toNat)
  case atStart => exact ⟨0, by omega, rfl, by rw [M0], hown0, Below.refl _ _⟩
  case round =>
    clear hown0 M0
    obtain ⟨j, hj, rfl, rfl, hown, hbe⟩ := hrel
    have hws := hbe.size
    have hlen : (vals (dl (x - y) j)).length = j := by unfold vals; rw [List.length_map, dl_len]
    obtain ⟨s1, s2⟩ := ST.out j
    obtain ⟨b1, b2⟩ := BD.out j
    obtain ⟨b3, b4⟩ := BD.out (j + 1)
    have l1 := Ten.lz_bd x j
    have l2 := Ten.lz_bd y j
    have zy := HY.out j
    have HSC := Lib.hid (dl_succ (x - y) j)
    have hlz := Ten.lz_bd (x - y) j
    have hln : ((Ten.lz (x - y) j).toNat : Int) = Ten.lz (x - y) j := by omega
    have HLN := Lib.hid hln
    have hcx : j < n → ∃ g o, a = some ⟨g, o, none⟩ ∧ wr.cell? ⟨g, o + j, none⟩ = some (.int .i64 (Ten.lz x j)) := fun h => by
      obtain ⟨g, o, e, hg, hc⟩ := HA.out (by omega)
      exact ⟨g, o, e, (below_at hbe (o + j) hg).trans (hc j h)⟩
    have hcy : j < k → ∃ g o, b = some ⟨g, o, none⟩ ∧ wr.cell? ⟨g, o + j, none⟩ = some (.int .i64 (Ten.lz y j)) := fun h => by
      obtain ⟨g, o, e, hg, hc⟩ := HB.out (by omega)
      exact ⟨g, o, e, (below_at hbe (o + j) hg).trans (hc j h)⟩
    clear hln
    obtain ⟨cz, hcz0⟩ : ∃ q, q = bw x y (j + 1) := ⟨_, rfl⟩
    rw [← hcz0] at s2 b3 b4
    generalize bw x y j = cy at *
    generalize Ten.lz (x - y) j = lo at *
    generalize Ten.lz x j = lx at *
    generalize Ten.lz y j = ly at *
    by_cases h1 : j < n
    · obtain ⟨g1, o1, rfl, c1⟩ := hcx h1
      by_cases h2 : j < k
      · obtain ⟨g2, o2, rfl, c2⟩ := hcy h2
        clear hcx hcy zy
        by_cases h3 : lx - cy - ly < 0
        · have HS1 : Hid ((lx - cy - ly) + 10 = lo) := Lib.hid (by omega)
          have HS2 : Hid (1 = bw x y (j + 1)) := Lib.hid (by rw [← hcz0]; omega)
          have hq : lx - cy - ly < 0 := by omega
          clear s1 s2 hcz0 b3 b4
          go_wp2_with (at_builtin; refine wpList_append_own _ rfl _ _ 133 rfl w.heap.size 3 i0 (.int .i64 0) 1 8 und64i hi hz0 hz1 hz2 rfl (by decide) _ _ _ rfl (hown.alloc _) ⟨wr.heap.size, 0, none⟩ 1 1 [.int .i64 ((lx - cy - ly) + 10)] rfl rfl (by
              intro q u hq
              match q, hq with
              | 0, hq => simp at hq; subst hq; simp [Addr.add]) (by intro u hu; simp at hu; subst hu; rfl) (by unfold maxLen; omega) (by omega) (by simp; omega) ?_)
          · intro v' w1 hown' hgrow _
            have R1 : w1.ownsRow w.heap.size 3 1 v' (j + 1) (vals (dl (x - y) (j + 1))) := by
              rw [HSC.out, vals_snoc, HLN.out, ← HS1.out]
              exact hown'
            have R2 : Below w.heap.size w w1 := (hbe.alloc hbe.size _).grown hgrow (by simp; omega) (own8_ge hown)
            clear hown' hgrow hown hbe
            go_wp2
            go_roundw
            case rel => exact ⟨j + 1, by omega, by go_num, by rw [← HS2.out], R1, R2⟩
            case measure => simp [intOf] <;> omega
        · have HS1 : Hid (lx - cy - ly = lo) := Lib.hid (by omega)
          have HS2 : Hid (0 = bw x y (j + 1)) := Lib.hid (by rw [← hcz0]; omega)
          have hq : ¬ lx - cy - ly < 0 := by omega
          clear s1 s2 hcz0 b3 b4
          go_wp2_with (at_builtin; refine wpList_append_own _ rfl _ _ 133 rfl w.heap.size 3 i0 (.int .i64 0) 1 8 und64i hi hz0 hz1 hz2 rfl (by decide) _ _ _ rfl (hown.alloc _) ⟨wr.heap.size, 0, none⟩ 1 1 [.int .i64 (lx - cy - ly)] rfl rfl (by
              intro q u hq
              match q, hq with
              | 0, hq => simp at hq; subst hq; simp [Addr.add]) (by intro u hu; simp at hu; subst hu; rfl) (by unfold maxLen; omega) (by omega) (by simp; omega) ?_)
          · intro v' w1 hown' hgrow _
            have R1 : w1.ownsRow w.heap.size 3 1 v' (j + 1) (vals (dl (x - y) (j + 1))) := by
              rw [HSC.out, vals_snoc, HLN.out, ← HS1.out]
              exact hown'
            have R2 : Below w.heap.size w w1 := (hbe.alloc hbe.size _).grown hgrow (by simp; omega) (own8_ge hown)
            clear hown' hgrow hown hbe
            go_wp2
            go_roundw
            case rel => exact ⟨j + 1, by omega, by go_num, by rw [← HS2.out], R1, R2⟩
            case measure => simp [intOf] <;> omega
      · have e2 := zy h2
        rw [e2, Int.sub_zero] at s1 s2
        clear hcx hcy zy e2 l2
        by_cases h3 : lx - cy < 0
        · have HS1 : Hid ((lx - cy) + 10 = lo) := Lib.hid (by omega)
          have HS2 : Hid (1 = bw x y (j + 1)) := Lib.hid (by rw [← hcz0]; omega)
          have hq : lx - cy < 0 := by omega
          clear s1 s2 hcz0 b3 b4
          go_wp2_with (at_builtin; refine wpList_append_own _ rfl _ _ 133 rfl w.heap.size 3 i0 (.int .i64 0) 1 8 und64i hi hz0 hz1 hz2 rfl (by decide) _ _ _ rfl (hown.alloc _) ⟨wr.heap.size, 0, none⟩ 1 1 [.int .i64 ((lx - cy) + 10)] rfl rfl (by
              intro q u hq
              match q, hq with
              | 0, hq => simp at hq; subst hq; simp [Addr.add]) (by intro u hu; simp at hu; subst hu; rfl) (by unfold maxLen; omega) (by omega) (by simp; omega) ?_)
          · intro v' w1 hown' hgrow _
            have R1 : w1.ownsRow w.heap.size 3 1 v' (j + 1) (vals (dl (x - y) (j + 1))) := by
              rw [HSC.out, vals_snoc, HLN.out, ← HS1.out]
              exact hown'
            have R2 : Below w.heap.size w w1 := (hbe.alloc hbe.size _).grown hgrow (by simp; omega) (own8_ge hown)
            clear hown' hgrow hown hbe
            go_wp2
            go_roundw
            case rel => exact ⟨j + 1, by omega, by go_num, by rw [← HS2.out], R1, R2⟩
            case measure => simp [intOf] <;> omega
        · have HS1 : Hid (lx - cy = lo) := Lib.hid (by omega)
          have HS2 : Hid (0 = bw x y (j + 1)) := Lib.hid (by rw [← hcz0]; omega)
          have hq : ¬ lx - cy < 0 := by omega
          clear s1 s2 hcz0 b3 b4
          go_wp2_with (at_builtin; refine wpList_append_own _ rfl _ _ 133 rfl w.heap.size 3 i0 (.int .i64 0) 1 8 und64i hi hz0 hz1 hz2 rfl (by decide) _ _ _ rfl (hown.alloc _) ⟨wr.heap.size, 0, none⟩ 1 1 [.int .i64 (lx - cy)] rfl rfl (by
              intro q u hq
              match q, hq with
              | 0, hq => simp at hq; subst hq; simp [Addr.add]) (by intro u hu; simp at hu; subst hu; rfl) (by unfold maxLen; omega) (by omega) (by simp; omega) ?_)
          · intro v' w1 hown' hgrow _
            have R1 : w1.ownsRow w.heap.size 3 1 v' (j + 1) (vals (dl (x - y) (j + 1))) := by
              rw [HSC.out, vals_snoc, HLN.out, ← HS1.out]
              exact hown'
            have R2 : Below w.heap.size w w1 := (hbe.alloc hbe.size _).grown hgrow (by simp; omega) (own8_ge hown)
            clear hown' hgrow hown hbe
            go_wp2
            go_roundw
            case rel => exact ⟨j + 1, by omega, by go_num, by rw [← HS2.out], R1, R2⟩
            case measure => simp [intOf] <;> omega
    · obtain rfl : j = n := by omega
      obtain ⟨a', c', hv, hc', hrow⟩ := row_own hown hxy0 HLT.out
      have hsome : 0 < j → ∃ g o, a' = some ⟨g, o, none⟩ ∧ w.heap.size ≤ g ∧ g < wr.heap.size := fun h0 => by
        obtain ⟨g, o, e, hg, _⟩ := hrow h0
        exact ⟨g, o, e, own8_ge hown g (by rw [hv, e]; rfl), hg⟩
      have HSM := Lib.hid hsome
      subst hv
      have TR := Lib.hid (rtrim_any a' j c' (x - y) wr hxy0 HLT.out hc' (by omega) hrow)
      have hnl : Ten.nl (x - y) ≤ j := Ten.nl_le HLT.out
      have HROW := Lib.hid (hrow.less hnl)
      have HBE := Lib.hid hbe
      have hcl : Ten.nl (x - y) ≤ c' := Nat.le_trans hnl hc'
      clear hown hrow hbe s1 s2 hcx hcy zy hcz0 hnl hsome
      go_wp2_with fail
      refine TR.out.mono ?_
      rintro e w' ⟨rfl, rfl⟩
      go_wp2
      go_ret
      exact ⟨_, _, rfl, hcl, hxy0, HROW.out, HBE.out, HSM.out⟩
end Go.Proofs.YtkhebidmfjbhaaaGreatDoor
namespace Go.Proofs.YtkhebidmfjbhaaaGreatDoor
open Go.RowKit

theorem ten_cmp {x y : Int} (k : Nat) (h : x / Ten.bp (k + 1) = y / Ten.bp (k + 1)) : Ten.lz x k < Ten.lz y k → x < y := by
  intro hl
  have e1 := Ten.div_split x k
  have e2 := Ten.div_split y k
  rcases Int.lt_or_le x y with h3 | h3
  · exact h3
  · have := Int.ediv_le_ediv (Ten.bp_pos k) h3
    omega
theorem ret_i {t s : Int} (h : t = s) : (Ending.returned (.int .i64 t)) = .returned (.int .i64 s) := by rw [h]
theorem rsize_long (a b : Option Addr) (n c k d : Nat) (x y : Int) (w : World) (hx0 : 0 ≤ x) (hy0 : 0 ≤ y) (hn : n = Ten.nl x) (hk : k = Ten.nl y) (_hn' : n ≤ 100000) (_hk' : k ≤ 100000) (hnk : n ≠ k) :
    Calls Tryz.prog 160 #[.slice a n c, .slice b k d] w (GivesI (cmp3 x y) w) := by
  rcases Nat.lt_or_ge n k with h | h
  · have hlt : x < y := by
      rcases Int.lt_or_le x y with h3 | h3
      · exact h3
      · have := Ten.nl_mono hx0 h3; omega
    have hi : (n : Int) < (k : Int) := by omega
    have hne : ((n : Int) != (k : Int)) = true := by rw [bne_iff_ne]; omega
    rw [cmp3_lt hlt]
    clear hn hk hlt h hnk
    go_enter Tryz.func160, Tryz.ntmps160
    go_wp2
    go_ret
    exact ⟨rfl, Below.refl _ _⟩
  · have hlt : y < x := by
      rcases Int.lt_or_le y x with h3 | h3
      · exact h3
      · have := Ten.nl_mono hy0 h3; omega
    have hi : ¬ (n : Int) < (k : Int) := by omega
    have hne : ((n : Int) != (k : Int)) = true := by rw [bne_iff_ne]; omega
    rw [cmp3_gt hlt]
    clear hn hk hlt h hnk
    go_enter Tryz.func160, Tryz.ntmps160
    go_wp2
    go_ret
    exact ⟨rfl, Below.refl _ _⟩
set_option maxHeartbeats 2000000 in
set_option maxRecDepth 100000 in
theorem rsize_same (a b : Option Addr) (n c d : Nat) (x y : Int) (w : World) (hx0 : 0 ≤ x) (hy0 : 0 ≤ y) (hx : x < Ten.bp n) (hy : y < Ten.bp n) (hn' : n ≤ 100000)
    (ha : RowD w w.heap.size a n x) (hb : RowD w w.heap.size b n y) :
    Calls Tryz.prog 160 #[.slice a n c, .slice b n d] w (GivesI (cmp3 x y) w) := by
  have HA := Lib.hid ha
  have HB := Lib.hid hb
  have H0 := Lib.hid (show x / Ten.bp n = y / Ten.bp n by rw [Ten.div_zero hx0 hx, Ten.div_zero hy0 hy])
  have hne : ((n : Int) != (n : Int)) = false := by rw [bne_eq_false_iff_eq]
  clear ha hb hx hy hx0 hy0
  go_enter Tryz.func160, Tryz.ntmps160
  go_wp2_with fail
  go_loopw [5] (fun i wr => ∃ k q : Nat, k ≤ n ∧ i = .int .i64 ((k : Int) - 1) ∧ Hid (x / Ten.bp k = y / Ten.bp k) ∧ wr = w.drewN q) (fun i _ => (intOf i + 1).toNat)
  case atStart => exact ⟨n, 0, by omega, rfl, H0, rfl⟩
  case round =>
    clear H0
    obtain ⟨k, q, hk, rfl, HK, rfl⟩ := hrel
    rcases Nat.eq_zero_or_pos k with hk0 | hk0
    · subst hk0
      have hxy : x = y := by have := HK.out; rwa [Ten.div_bp_zero, Ten.div_bp_zero] at this
      go_wp2
      go_ret
      exact ⟨ret_i (by rw [hxy, cmp3_eq]), below_drewN (Below.refl _ _) _⟩
    · obtain ⟨g, o, rfl, hg, hcx⟩ := HA.out (by omega)
      obtain ⟨g', o', rfl, hg', hcy⟩ := HB.out (by omega)
      have h1 := hcx (k - 1) (by omega)
      have h2 := hcy (k - 1) (by omega)
      clear hcx hcy
      obtain ⟨W, hW⟩ : ∃ W, W = w.drewN q := ⟨_, rfl⟩
      have h1' : W.cell? ⟨g, o + (k - 1), none⟩ = some (.int .i64 (Ten.lz x (k - 1))) := by rw [hW]; exact h1
      have h2' : W.cell? ⟨g', o' + (k - 1), none⟩ = some (.int .i64 (Ten.lz y (k - 1))) := by rw [hW]; exact h2
      have HBW := Lib.hid (below_drewN (Below.refl w.heap.size w) q)
      rw [← hW] at HBW ⊢
      have HW := Lib.hid hW
      clear hW HA HB h1 h2
      have i1 : (0 : Int) ≤ (k : Int) - 1 := by omega
      have i2 : (k : Int) - 1 < (n : Int) := by omega
      have hk1 := Lib.hid (show k - 1 + 1 = k by omega)
      have hd1 := ten_cmp (x := x) (y := y) (k - 1) (by rw [hk1.out]; exact HK.out)
      have hd2 := ten_cmp (x := y) (y := x) (k - 1) (by rw [hk1.out]; exact HK.out.symm)
      have hd3 : Ten.lz x (k - 1) = Ten.lz y (k - 1) → x / Ten.bp (k - 1) = y / Ten.bp (k - 1) := fun e => by
        rw [Ten.div_split x, Ten.div_split y, hk1.out, HK.out, e]
      have D1 := Lib.hid hd1
      have D2 := Lib.hid hd2
      have D3 := Lib.hid hd3
      clear hd1 hd2 hd3
      generalize Ten.lz x (k - 1) = lx at *
      generalize Ten.lz y (k - 1) = ly at *
      rcases Int.lt_trichotomy lx ly with h | h | h
      · go_wp2_with fail
        go_quiet (fail)
        go_wp2
        go_ret
        exact ⟨ret_i (cmp3_lt (D1.out h)).symm, below_drewN HBW.out _⟩
      · subst h
        have hn1 : ¬ lx < lx := by omega
        go_wp2_with fail
        go_quiet (fail)
        go_wp2_with fail
        go_quiet (fail)
        go_wp2
        go_roundw
        case rel => exact ⟨k - 1, _, by omega, by go_num, D3.out (by first | rfl | trivial), by rw [HW.out, World.drewN_drewN]⟩
        case measure => simp [intOf]; omega
      · have hn1 : ¬ lx < ly := by omega
        go_wp2_with fail
        go_quiet (fail)
        go_wp2_with fail
        go_quiet (fail)
        go_wp2
        go_ret
        exact ⟨ret_i (cmp3_gt (D2.out h)).symm, below_drewN (below_drewN HBW.out _) _⟩
theorem rsize_any (a b : Option Addr) (n c k d : Nat) (x y : Int) (w : World) (hx0 : 0 ≤ x) (hy0 : 0 ≤ y) (hn : n = Ten.nl x) (hk : k = Ten.nl y) (hn' : n ≤ 100000) (hk' : k ≤ 100000)
    (ha : RowD w w.heap.size a n x) (hb : RowD w w.heap.size b k y) :
    Calls Tryz.prog 160 #[.slice a n c, .slice b k d] w (GivesI (cmp3 x y) w) := by
  by_cases h : n = k
  · subst h
    exact rsize_same a b n c d x y w hx0 hy0 (by rw [hn]; exact Ten.nl_lt hx0) (by rw [hk]; exact Ten.nl_lt hy0) hn' ha hb
  · exact rsize_long a b n c k d x y w hx0 hy0 hn hk hn' hk' h
end Go.Proofs.YtkhebidmfjbhaaaGreatDoor
namespace Go.Proofs.YtkhebidmfjbhaaaGreatDoor
open Go.RowKit

theorem rDigits_neg (z : Int) (w : World) (hz : z < 0) (hd : dn z ≤ 100000) :
    Calls Tryz.prog 176 #[.string (tx z)] w fun e w' => e = .returned (.int .i64 (dn z)) ∧ w = w' := by
  have hsz := tx_size z
  rw [if_pos hz] at hsz
  have hb := tx_first z hz
  obtain ⟨T, hT⟩ : ∃ T, T = tx z := ⟨_, rfl⟩
  rw [← hT] at hsz hb ⊢
  have hT0 : 0 < T.size := by omega
  have hb0 : (((T[0]'hT0).toNat : Int) == 45) = true := by rw [hb hT0]; rfl
  have hn : (T.size : Int) - 1 = dn z := by omega
  have hm : T.size ≤ 100001 := by omega
  have HN := Lib.hid hn
  clear hb hT hsz hn hd hz
  go_enter Tryz.func176, Tryz.ntmps176
  go_wp2
  go_ret
  exact ⟨ret_i HN.out, rfl⟩
theorem rDigits_pos (z : Int) (w : World) (hz : ¬ z < 0) (hd : dn z ≤ 100000) :
    Calls Tryz.prog 176 #[.string (tx z)] w fun e w' => e = .returned (.int .i64 (dn z)) ∧ w = w' := by
  have hsz := tx_size z
  rw [if_neg hz] at hsz
  have hb := tx_first_not z hz
  have hp := dn_pos z
  obtain ⟨T, hT⟩ : ∃ T, T = tx z := ⟨_, rfl⟩
  rw [← hT] at hsz hb ⊢
  have hT0 : 0 < T.size := by omega
  have hb0 : (((T[0]'hT0).toNat : Int) == 45) = false := by rw [beq_eq_false_iff_ne]; have := hb hT0; omega
  have hn : (T.size : Int) = dn z := by omega
  have hm : T.size ≤ 100001 := by omega
  have HN := Lib.hid hn
  clear hb hT hsz hn hd hz hp
  go_enter Tryz.func176, Tryz.ntmps176
  go_wp2
  go_ret
  exact ⟨ret_i HN.out, rfl⟩
theorem rDigits_any (z : Int) (w : World) (hd : dn z ≤ 100000) :
    Calls Tryz.prog 176 #[.string (tx z)] w fun e w' => e = .returned (.int .i64 (dn z)) ∧ w = w' := by
  by_cases hz : z < 0
  · exact rDigits_neg z w hz hd
  · exact rDigits_pos z w hz hd
theorem rshort_no (z : Int) (w : World) (hd : dn z ≤ 100000) (h9 : 9 < dn z) :
    Calls Tryz.prog 162 #[.string (tx z)] w fun e w' => e = .returned (.tuple #[.int .i64 0, .bool false]) ∧ w = w' := by
  have D := Lib.hid (rDigits_any z w hd)
  have h9' : (9 : Int) < dn z := by omega
  obtain ⟨T, hT⟩ : ∃ T, T = tx z := ⟨_, rfl⟩
  rw [← hT] at D ⊢
  obtain ⟨n, hn⟩ : ∃ n : Int, n = dn z := ⟨_, rfl⟩
  rw [← hn] at D h9'
  clear hT hn hd h9
  go_enter Tryz.func162, Tryz.ntmps162
  go_wp2_with fail
  refine D.out.mono ?_
  rintro e w' ⟨rfl, rfl⟩
  go_wp2
  go_ret2
  exact ⟨rfl, rfl⟩
/-- The highest j of the m digits. -/
def hi9 (u : Int) (m j : Nat) : Int := u / Ten.bp (m - j)
set_option maxHeartbeats 2000000 in
set_option maxRecDepth 100000 in
theorem rshort_yes (z : Int) (w : World) (h9 : dn z ≤ 9) :
    Calls Tryz.prog 162 #[.string (tx z)] w fun e w' => e = .returned (.tuple #[.int .i64 z, .bool true]) ∧ w = w' := by
  have D := Lib.hid (rDigits_any z w (by omega))
  have hsz := tx_size z
  have hdig := tx_dig z
  have hfst := tx_first z
  have hfn := tx_first_not z
  have hp := dn_pos z
  have hlt := dn_lt (x := (z.natAbs : Int)) (by omega)
  rw [dn_abs] at hlt
  obtain ⟨U, hU⟩ : ∃ U : Int, U = z.natAbs := ⟨_, rfl⟩
  have hU0 : 0 ≤ U := by omega
  rw [← hU] at hlt hdig
  obtain ⟨m, hm⟩ : ∃ m, m = dn z := ⟨_, rfl⟩
  rw [← hm] at hsz hp hlt h9 D
  obtain ⟨T, hT⟩ : ∃ T, T = tx z := ⟨_, rfl⟩
  rw [← hT] at hsz hdig hfst hfn D ⊢
  have hT0 : 0 < T.size := by omega
  have hb0 : (((T[0]'hT0).toNat : Int) == 45) = decide (z < 0) := by
    by_cases h : z < 0
    · rw [decide_eq_true h, beq_iff_eq]; exact hfst h hT0
    · have := hfn h hT0
      rw [decide_eq_false h, beq_eq_false_iff_ne]; omega
  have h9' : ¬ (9 : Int) < m := by omega
  have HD := Lib.hid hdig
  have HF := Lib.hid hfst
  have HS := Lib.hid hsz
  have HU := Lib.hid hU
  have hTm : T.size ≤ 10 := by split at hsz <;> omega
  obtain ⟨f, hf⟩ : ∃ f : Nat, f = if z < 0 then 1 else 0 := ⟨_, rfl⟩
  have HFF := Lib.hid hf
  have hTf : T.size = m + f := by rw [hf]; exact hsz
  have hf1 : f ≤ 1 := by rw [hf]; split <;> omega
  have hst : hi9 U m 0 = 0 := by unfold hi9; rw [Nat.sub_zero, Ten.div_zero hU0 hlt]
  have hen : hi9 U m m = U := by unfold hi9; rw [Nat.sub_self, Ten.div_bp_zero]
  have hsu : ∀ j, j < m → 10 * hi9 U m j + Ten.lz U (m - 1 - j) = hi9 U m (j + 1) := fun j hj => by
    unfold hi9
    have := Ten.div_split U (m - (j + 1))
    rw [show m - (j + 1) + 1 = m - j by omega] at this
    rw [this, show m - 1 - j = m - (j + 1) by omega]
  have hbd : ∀ j, 0 ≤ hi9 U m j ∧ hi9 U m j < 1000000000 := fun j => by
    unfold hi9
    have h1 : U < Ten.bp 9 := Int.lt_of_lt_of_le hlt (Ten.bp_mono h9)
    have h2 : Ten.bp 9 = 1000000000 := by decide
    have h3 := Int.ediv_le_self (Ten.bp (m - j)) hU0
    have h4 := Int.ediv_nonneg hU0 (Int.le_of_lt (Ten.bp_pos (m - j)))
    omega
  have ST := Lib.hid hst
  have EN := Lib.hid hen
  have SU := Lib.hid hsu
  have BD := Lib.hid hbd
  have hzz : z < 0 ∧ -U = z ∨ ¬ z < 0 ∧ U = z := by omega
  have HZZ := Lib.hid hzz
  obtain ⟨sg, hsg⟩ : ∃ sg, sg = decide (z < 0) := ⟨_, rfl⟩
  rw [← hsg] at hb0
  have HSG := Lib.hid hsg
  clear hdig hfst hfn hsz hT hU hm hlt hf hst hen hsu hbd hzz hsg h9
  go_enter Tryz.func162, Tryz.ntmps162
  go_wp2_with fail
  refine D.out.mono ?_
  rintro e w' ⟨rfl, rfl⟩
  go_wp2
  go_loop [4, 5] (fun v i => ∃ k : Nat, k ≤ T.size ∧ i = .int .i64 k ∧ v = .int .i64 (hi9 U m (k - f))) (fun _ i => T.size - (intOf i).toNat)
  case atStart => exact ⟨0, by omega, rfl, by rw [Nat.zero_sub, ST.out]⟩
  case round =>
    obtain ⟨k, hk, rfl, rfl⟩ := hrel
    obtain ⟨b1, b2⟩ := BD.out (k - f)
    obtain ⟨q, hq⟩ : ∃ q, q = hi9 U m (k - f) := ⟨_, rfl⟩
    rw [← hq] at b1 b2 ⊢
    by_cases hlt : k < T.size
    · by_cases hkf : k < f
      · have hneg : z < 0 := by
          have := HFF.out
          split at this
          · assumption
          · omega
        have hk0 : k = 0 := by omega
        subst hk0
        have hne : (((T[0]'hlt).toNat : Int) != 45) = false := by rw [bne_eq_false_iff_eq]; exact HF.out hneg hlt
        have HQ := Lib.hid (hq.trans (congrArg (hi9 U m) (show 0 - f = 0 + 1 - f by omega)))
        clear hq hneg hkf b1 b2
        go_wp2
        go_round
        case rel => exact ⟨0 + 1, by omega, by go_num, by rw [← HQ.out]⟩
        case measure => simp [intOf]; omega
      · have hd := HD.out k hlt (fun hneg => by have := HFF.out; rw [if_pos hneg] at this; omega)
        have hl := Ten.lz_bd U (T.size - 1 - k)
        have hne : (((T[k]'hlt).toNat : Int) != 45) = true := by rw [bne_iff_ne]; omega
        have hs := SU.out (k - f) (by omega)
        rw [← hq, show m - 1 - (k - f) = T.size - 1 - k by omega, show k - f + 1 = k + 1 - f by omega] at hs
        generalize Ten.lz U (T.size - 1 - k) = l at *
        have hby : ((T[k]'hlt).toNat : Int) < 58 := by omega
        have hby2 : 48 ≤ ((T[k]'hlt).toNat : Int) := by omega
        have HQ : Hid (10 * q + ((T[k]'hlt).toNat : Int) - 48 = hi9 U m (k + 1 - f)) := Lib.hid (by omega)
        clear hq hs hd hl
        go_wp2
        go_round
        case rel => exact ⟨k + 1, by omega, by go_num, by rw [← HQ.out]⟩
        case measure => simp [intOf]; omega
    · have hkm : k - f = m := by omega
      rw [hkm, EN.out] at hq
      subst hq
      clear hkm
      cases sg with
      | true =>
        have hz : -q = z := by rcases HZZ.out with h | h; exact h.2; exact absurd HSG.out (by rw [decide_eq_false (by omega)]; decide)
        have HZ := Lib.hid hz
        clear hz
        go_wp2
        go_ret2
        exact ⟨by rw [← HZ.out]; rfl, rfl⟩
      | false =>
        have hz : q = z := by rcases HZZ.out with h | h; exact absurd HSG.out (by rw [decide_eq_true (by omega)]; decide); exact h.2
        have HZ := Lib.hid hz
        clear hz
        go_wp2
        go_ret2
        exact ⟨by rw [← HZ.out]; rfl, rfl⟩
end Go.Proofs.YtkhebidmfjbhaaaGreatDoor
