/-
  What the reference's Valid, Long and Is return.
  What the reference's Number returns: the text of an int.
  What the reference's Plus, Opposite, Minus, Compare and Positive return.
-/
import Derived.Test.YtkhebidmfjbhaaaGreatDoorZ26
import Derived.Lib.IndexBytes
namespace Go.Proofs.YtkhebidmfjbhaaaGreatDoor
open Go.RowKit

theorem len_size (s : ByteArray) : s.data.toList.length = s.size := by rw [Array.length_toList]; rfl
theorem byte_beq (c : UInt8) (k : Nat) (hk : k < 256) : (some c == some (UInt8.ofNat k)) = ((c.toNat : Int) == k) := by
  rw [Bool.eq_iff_iff, beq_iff_eq, beq_iff_eq, Option.some.injEq]
  constructor
  · intro h; rw [h]; simp; omega
  · intro h
    have h2 : c.toNat = k := by omega
    rw [← h2]; simp
end Go.Proofs.YtkhebidmfjbhaaaGreatDoor
namespace Go.Proofs.YtkhebidmfjbhaaaGreatDoor
open Go.RowKit

theorem ten_div_pos {x : Int} {j : Nat} (h : 0 < x / Ten.bp j) (h0 : 0 ≤ x) (hx : x < Ten.bp 19) : j < 19 := by
  rcases Nat.lt_or_ge j 19 with c | c
  · exact c
  · rw [Ten.div_zero h0 (Int.lt_of_lt_of_le hx (Ten.bp_mono c))] at h
    omega
theorem ten_div_done {x : Int} {j : Nat} (h : ¬ 0 < x / Ten.bp j) (_h0 : 0 ≤ x) : x < Ten.bp j := by
  have hp := Ten.bp_pos j
  rcases Int.lt_or_le x (Ten.bp j) with c | c
  · exact c
  · have := Int.ediv_le_ediv hp c
    rw [Int.ediv_self (by omega)] at this
    omega
theorem ret_s {s t : ByteArray} (h : s = t) : (Ending.returned (.string s)) = .returned (.string t) := by rw [h]
set_option maxHeartbeats 2000000 in
set_option maxRecDepth 100000 in
theorem rnumber_pos (x : Int) (w : World) (hx0 : 0 ≤ x) (hx : x ≤ 9223372036854775807) :
    Calls Tryz.prog 92 #[.int .i64 x] w (GivesY (tx x) w) := by
  obtain ⟨i0, hi, hz0, hz1, hz2⟩ := info_parts infoI64
  have hb19 : x < Ten.bp 19 := Int.lt_of_le_of_lt hx (by decide)
  have HB := Lib.hid hb19
  have hown0 : w.ownsRow w.heap.size 3 1 (.slice none 0 0) 0 (vals (dl x 0)) := World.ownsRow_nil _ _ _ _
  have hneg : ¬ x < 0 := by omega
  have hz0' := Ten.div_bp_zero x
  have HTX := Lib.hid (fun (W : World) (a : Option Addr) (n c : Nat) (h1 : x < Ten.bp n) (h2 : n ≤ c) (h3 : n ≤ 1000000) (h4 : RowD W W.heap.size a n x) => rtext_any false a n c x W hx0 h1 h2 h3 h4)
  have HZ := Lib.hid hz0'
  clear hb19 hz0'
  go_enter Tryz.func92, Tryz.ntmps92
  go_wp2_with fail
  go_loopw [0, 6] (fun i v wr => ∃ j : Nat, j ≤ 19 ∧ i = .int .i64 (x / Ten.bp j) ∧ wr.ownsRow w.heap.size 3 1 v j (vals (dl x j)) ∧ Below w.heap.size w wr) (fun i _ _ => (intOf i).toNat)
  case atStart => exact ⟨0, by omega, by rw [HZ.out], hown0, Below.refl _ _⟩
  case round =>
    clear hown0
    obtain ⟨j, hj, rfl, hown, hbe⟩ := hrel
    have hws := hbe.size
    have hlen : (vals (dl x j)).length = j := by unfold vals; rw [List.length_map, dl_len]
    have s1 : x / Ten.bp j % 10 = Ten.lz x j := rfl
    have s2 : x / Ten.bp j / 10 = x / Ten.bp (j + 1) := (Ten.div_succ x j).symm
    have HSC := Lib.hid (dl_succ x j)
    have hlz := Ten.lz_bd x j
    have hln : ((Ten.lz x j).toNat : Int) = Ten.lz x j := by omega
    have HLN := Lib.hid hln
    have p1 := Int.ediv_nonneg hx0 (Int.le_of_lt (Ten.bp_pos j))
    have p2 : x / Ten.bp j ≤ 9223372036854775807 := Int.le_trans (Int.ediv_le_self _ hx0) hx
    have p3 : 0 < x / Ten.bp j → j < 19 := fun h => ten_div_pos h hx0 HB.out
    have p4 : ¬ 0 < x / Ten.bp j → x < Ten.bp j := fun h => ten_div_done h hx0
    have p5 : 0 < x / Ten.bp j → x / Ten.bp (j + 1) < x / Ten.bp j := fun h => by rw [Ten.div_succ]; omega
    have p6 := Int.ediv_nonneg hx0 (Int.le_of_lt (Ten.bp_pos (j + 1)))
    obtain ⟨q', hq'⟩ : ∃ q, q = x / Ten.bp (j + 1) := ⟨_, rfl⟩
    rw [← hq'] at s2 p5 p6
    have HQ := Lib.hid hq'
    clear hln hq'
    generalize x / Ten.bp j = q at *
    generalize Ten.lz x j = lo at *
    have S1 := Lib.hid s1
    have S2 := Lib.hid s2
    clear s1 s2
    by_cases h1 : 0 < q
    · have hj' := p3 h1
      have hlt := p5 h1
      clear p3 p4 p5
      go_wp2_with (at_builtin; refine wpList_append_own _ rfl _ _ 133 rfl w.heap.size 3 i0 (.int .i64 0) 1 8 und64i hi hz0 hz1 hz2 rfl (by decide) _ _ _ rfl (hown.alloc _) ⟨wr.heap.size, 0, none⟩ 1 1 [.int .i64 (q % 10)] rfl rfl (by
        intro t u ht
        match t, ht with
        | 0, ht => simp at ht; subst ht; simp [Addr.add]) (by intro u hu; simp at hu; subst hu; rfl) (by unfold maxLen; omega) (by omega) (by simp; omega) ?_)
      · intro v' w1 hown' hgrow _
        have R1 : w1.ownsRow w.heap.size 3 1 v' (j + 1) (vals (dl x (j + 1))) := by
          rw [HSC.out, vals_snoc, HLN.out, ← S1.out]
          exact hown'
        have R2 : Below w.heap.size w w1 := (hbe.alloc hbe.size _).grown hgrow (by simp; omega) (own8_ge hown)
        clear hown' hgrow hown hbe
        go_wp2
        go_roundw
        case rel => exact ⟨j + 1, by omega, by rw [← HQ.out, ← S2.out], R1, R2⟩
        case measure => have := S2.out; simp [intOf] <;> omega
    · have hlt := p4 h1
      obtain ⟨a', c', hv, hc', hrow⟩ := row_own hown hx0 hlt
      subst hv
      have TX := Lib.hid (HTX.out wr a' j c' hlt hc' (by omega) hrow)
      have HBE := Lib.hid hbe
      clear hown hrow hbe p3 p4 p5 hlt
      go_wp2_with fail
      refine TX.out.mono ?_
      rintro e w' ⟨rfl, hb⟩
      have B := Lib.hid (HBE.out.trans (hb.mono HBE.out.size))
      obtain ⟨T, hT⟩ : ∃ T, T = tx x := ⟨_, rfl⟩
      simp only [Bool.false_eq_true, if_false]
      rw [← hT]
      have HT := Lib.hid hT
      clear hb hT
      go_wp2
      go_ret
      exact ⟨ret_s HT.out, B.out⟩
theorem neg_quo {x : Int} (h : x < 0) : -(Int.tdiv x 10) = -x / 10 ∧ -(Int.tmod x 10) = -x % 10 := by
  have h1 := Int.neg_tdiv x 10
  have h2 := Int.neg_tmod x 10
  rw [← h1, ← h2, Int.tdiv_eq_ediv_of_nonneg (by omega), Int.tmod_eq_emod_of_nonneg (by omega)]
  exact ⟨rfl, rfl⟩
set_option maxHeartbeats 2000000 in
set_option maxRecDepth 100000 in
theorem rnumber_neg (z : Int) (w : World) (hz0 : z < 0) (hz : -9223372036854775808 ≤ z) :
    Calls Tryz.prog 92 #[.int .i64 z] w (GivesY (tx z) w) := by
  obtain ⟨i0, hi, hi0, hi1, hi2⟩ := info_parts infoI64
  obtain ⟨e1, e2⟩ := neg_quo hz0
  obtain ⟨x, hx⟩ : ∃ x, x = -z := ⟨_, rfl⟩
  rw [← hx] at e1 e2
  have hx0 : 0 < x := by omega
  have hxm : x ≤ 9223372036854775808 := by omega
  have hb19 : x < Ten.bp 19 := Int.lt_of_le_of_lt hxm (by decide)
  have HB := Lib.hid hb19
  have hown1 : w.ownsRow w.heap.size 3 1 (.slice none 0 0) 0 [] := World.ownsRow_nil _ _ _ _
  have hzx : -x = z := by omega
  have HTX := Lib.hid (fun (W : World) (a : Option Addr) (n c : Nat) (h1 : x < Ten.bp n) (h2 : n ≤ c) (h3 : n ≤ 1000000) (h4 : RowD W W.heap.size a n x) => rtext_any true a n c x W (by omega) h1 h2 h3 h4)
  have m0 : 0 ≤ x % 10 := Int.emod_nonneg _ (by decide)
  have m1 : x % 10 < 10 := Int.emod_lt_of_pos _ (by decide)
  have m2 : x / 10 ≤ 922337203685477580 := by omega
  have m3 : 0 ≤ x / 10 := by omega
  have hl0 : x % 10 = Ten.lz x 0 := by unfold Ten.lz; rw [Ten.div_bp_zero]
  have hq1 : x / 10 = x / Ten.bp 1 := by rw [Ten.bp_one]
  obtain ⟨r, hr⟩ : ∃ r, r = Int.tmod z 10 := ⟨_, rfl⟩
  obtain ⟨p, hp⟩ : ∃ p, p = Int.tdiv z 10 := ⟨_, rfl⟩
  rw [← hp] at e1
  rw [← hr] at e2
  obtain ⟨b1, b2⟩ : -9 ≤ r ∧ r ≤ 0 := by omega
  obtain ⟨b3, b4⟩ : -922337203685477580 ≤ p ∧ p ≤ 0 := by omega
  have hd1 : vals (dl x (0 + 1)) = [.int .i64 (-r)] := by
    rw [dl_succ]
    show [Value.int .i64 (((Ten.lz x 0).toNat : Nat) : Int)] = _
    rw [← hl0, ← e2]
    congr 2
    omega
  have HD1 := Lib.hid hd1
  have HP := Lib.hid (e1.trans hq1)
  have HR := Lib.hid hr
  have HPP := Lib.hid hp
  have HZX := Lib.hid hzx
  clear hb19 e1 e2 hx hzx m0 m1 m2 m3 hl0 hq1 hd1 hr hp
  go_enter Tryz.func92, Tryz.ntmps92
  go_upto_region 4 with fail
  rw [← HR.out, ← HPP.out]
  rw [IntWalk.wrap64_in (-r) ⟨by omega, by omega⟩]
  clear HR HPP
  go_wp2_with (at_builtin; refine wpList_append_own _ rfl _ _ 133 rfl w.heap.size 3 i0 (.int .i64 0) 1 8 und64i hi hi0 hi1 hi2 rfl (by decide) _ _ _ rfl (hown1.alloc _) ⟨w.heap.size, 0, none⟩ 1 1 [.int .i64 (-r)] rfl rfl (by
    intro t u ht
    match t, ht with
    | 0, ht => simp at ht; subst ht; simp [Addr.add]) (by intro u hu; simp at hu; subst hu; rfl) (by unfold maxLen; omega) (by omega) (by simp) ?_)
  intro v1 w1 hown' hgrow _
  have hown0 : w1.ownsRow w.heap.size 3 1 v1 (0 + 1) (vals (dl x (0 + 1))) := by rw [HD1.out]; exact hown'
  have hbe0 : Below w.heap.size w w1 := ((Below.refl _ _).alloc (Nat.le_refl _) _).grown hgrow (by simp) (own8_ge hown1)
  clear hown' hgrow hown1 HD1
  go_wp2_with fail
  go_loopw [3, 5] (fun i v wr => ∃ j : Nat, 1 ≤ j ∧ j ≤ 19 ∧ i = .int .i64 (x / Ten.bp j) ∧ wr.ownsRow w.heap.size 3 1 v j (vals (dl x j)) ∧ Below w.heap.size w wr) (fun i _ _ => (intOf i).toNat)
  case atStart => exact ⟨0 + 1, by omega, by omega, by rw [HP.out], hown0, hbe0⟩
  case round =>
    clear hown0 hbe0
    obtain ⟨j, hj1, hj, rfl, hown, hbe⟩ := hrel
    have hws := hbe.size
    have hlen : (vals (dl x j)).length = j := by unfold vals; rw [List.length_map, dl_len]
    have s1 : x / Ten.bp j % 10 = Ten.lz x j := rfl
    have s2 : x / Ten.bp j / 10 = x / Ten.bp (j + 1) := (Ten.div_succ x j).symm
    have HSC := Lib.hid (dl_succ x j)
    have hlz := Ten.lz_bd x j
    have hln : ((Ten.lz x j).toNat : Int) = Ten.lz x j := by omega
    have HLN := Lib.hid hln
    have p1 := Int.ediv_nonneg (Int.le_of_lt hx0) (Int.le_of_lt (Ten.bp_pos j))
    have p2 : x / Ten.bp j ≤ 922337203685477580 := by
      have := Ten.bp_mono hj1
      rw [Ten.bp_one] at this
      have h1 : x / Ten.bp j ≤ x / 10 := by
        apply Int.le_ediv_of_mul_le (by decide)
        have h2 := Int.ediv_mul_le x (b := Ten.bp j) (by have := Ten.bp_pos j; omega)
        have h3 := Int.mul_le_mul_of_nonneg_left this p1
        omega
      omega
    have p3 : 0 < x / Ten.bp j → j < 19 := fun h => ten_div_pos h (Int.le_of_lt hx0) HB.out
    have p4 : ¬ 0 < x / Ten.bp j → x < Ten.bp j := fun h => ten_div_done h (Int.le_of_lt hx0)
    have p5 : 0 < x / Ten.bp j → x / Ten.bp (j + 1) < x / Ten.bp j := fun h => by rw [Ten.div_succ]; omega
    have p6 := Int.ediv_nonneg (Int.le_of_lt hx0) (Int.le_of_lt (Ten.bp_pos (j + 1)))
    obtain ⟨q', hq'⟩ : ∃ q, q = x / Ten.bp (j + 1) := ⟨_, rfl⟩
    rw [← hq'] at s2 p5 p6
    have HQ := Lib.hid hq'
    clear hln hq'
    generalize x / Ten.bp j = q at *
    generalize Ten.lz x j = lo at *
    have S1 := Lib.hid s1
    have S2 := Lib.hid s2
    clear s1 s2
    by_cases h1 : 0 < q
    · have hj' := p3 h1
      have hlt := p5 h1
      clear p3 p4 p5
      go_wp2_with (at_builtin; refine wpList_append_own _ rfl _ _ 133 rfl w.heap.size 3 i0 (.int .i64 0) 1 8 und64i hi hi0 hi1 hi2 rfl (by decide) _ _ _ rfl (hown.alloc _) ⟨wr.heap.size, 0, none⟩ 1 1 [.int .i64 (q % 10)] rfl rfl (by
        intro t u ht
        match t, ht with
        | 0, ht => simp at ht; subst ht; simp [Addr.add]) (by intro u hu; simp at hu; subst hu; rfl) (by unfold maxLen; omega) (by omega) (by simp; omega) ?_)
      · intro v' w1 hown' hgrow _
        have R1 : w1.ownsRow w.heap.size 3 1 v' (j + 1) (vals (dl x (j + 1))) := by
          rw [HSC.out, vals_snoc, HLN.out, ← S1.out]
          exact hown'
        have R2 : Below w.heap.size w w1 := (hbe.alloc hbe.size _).grown hgrow (by simp; omega) (own8_ge hown)
        clear hown' hgrow hown hbe
        go_wp2
        go_roundw
        case rel => exact ⟨j + 1, by omega, by omega, by rw [← HQ.out, ← S2.out], R1, R2⟩
        case measure => have := S2.out; simp [intOf] <;> omega
    · have hlt := p4 h1
      obtain ⟨a', c', hv, hc', hrow⟩ := row_own hown (Int.le_of_lt hx0) hlt
      subst hv
      have TX := Lib.hid (HTX.out wr a' j c' hlt hc' (by omega) hrow)
      have HBE := Lib.hid hbe
      clear hown hrow hbe p3 p4 p5 hlt
      go_wp2_with fail
      refine TX.out.mono ?_
      rintro e w' ⟨rfl, hb⟩
      have B := Lib.hid (HBE.out.trans (hb.mono HBE.out.size))
      obtain ⟨T, hT⟩ : ∃ T, T = tx z := ⟨_, rfl⟩
      simp only [if_true]
      rw [HZX.out, ← hT]
      have HT := Lib.hid hT
      clear hb hT
      go_wp2
      go_ret
      exact ⟨ret_s HT.out, B.out⟩
theorem rnumber_any (z : Int) (w : World) (h1 : -9223372036854775808 ≤ z) (h2 : z ≤ 9223372036854775807) :
    Calls Tryz.prog 92 #[.int .i64 z] w (GivesY (tx z) w) := by
  rcases Int.lt_or_le z 0 with h | h
  · exact rnumber_neg z w h h1
  · exact rnumber_pos z w h h2
end Go.Proofs.YtkhebidmfjbhaaaGreatDoor
namespace Go.Proofs.YtkhebidmfjbhaaaGreatDoor
open Go.RowKit

theorem RowD.below {w w' : World} {a : Option Addr} {n : Nat} {z : Int} (h : RowD w w.heap.size a n z) (hb : Below w.heap.size w w') : RowD w' w'.heap.size a n z := fun h0 => by
  obtain ⟨g, o, e, hg, hc⟩ := h h0
  exact ⟨g, o, e, Nat.lt_of_lt_of_le hg hb.size, fun j hj => (below_at hb (o + j) hg).trans (hc j hj)⟩
/-- The value of a short integer, 0 of another one. -/
def sv (z : Int) : Int := if dn z ≤ 9 then z else 0
theorem rshort_any (z : Int) (w : World) (hd : dn z ≤ 100000) :
    Calls Tryz.prog 162 #[.string (tx z)] w fun e w' => e = .returned (.tuple #[.int .i64 (sv z), .bool (decide (dn z ≤ 9))]) ∧ w = w' := by
  unfold sv
  by_cases h : dn z ≤ 9
  · rw [if_pos h, decide_eq_true h]; exact rshort_yes z w h
  · rw [if_neg h, decide_eq_false h]; exact rshort_no z w hd (by omega)
theorem rdg (z : Int) (p : Bool) (Z : Int) (n : Nat) (T : ByteArray) (hp : p = decide (z < 0)) (hZ : Z = z.natAbs) (hn : n = Ten.nl Z) (hT : T = tx z) (w : World) (hd : dn z ≤ 100000) :
    Calls Tryz.prog 156 #[.string T] w fun e w' => ∃ a c, e = .returned (.tuple #[.bool p, .slice a n c]) ∧ n ≤ c ∧ RowD w' w'.heap.size a n Z ∧ Below w.heap.size w w' := by
  subst hn hZ hp hT
  refine (rdigits_any z w hd).mono ?_
  rintro e w' ⟨a, c, h1, h2, h3, h4, _⟩
  exact ⟨a, c, h1, h2, h3, h4⟩
theorem rdg2 (z : Int) (p : Bool) (Z : Int) (n : Nat) (T : ByteArray) (hp : p = decide (z < 0)) (hZ : Z = z.natAbs) (hn : n = Ten.nl Z) (hT : T = tx z) (w : World) (hd : dn z ≤ 100000) :
    Calls Tryz.prog 156 #[.string T] w fun e w' => ∃ g o c, e = .returned (.tuple #[.bool p, .slice (some ⟨g, o, none⟩) n c]) ∧ n ≤ c ∧ g < w'.heap.size ∧ RowD w' w'.heap.size (some ⟨g, o, none⟩) n Z ∧ Below w.heap.size w w' := by
  subst hn hZ hp hT
  refine (rdigits_any z w hd).mono ?_
  rintro e w' ⟨a, c, h1, h2, h3, h4, g, o, h5, h6⟩
  subst h5
  exact ⟨g, o, c, h1, h2, h6, h3, h4⟩
theorem sv_bd {z : Int} (h : dn z ≤ 9) : -1000000000 < z ∧ z < 1000000000 := by
  have h1 := dn_lt (x := (z.natAbs : Int)) (by omega)
  rw [dn_abs] at h1
  have h2 := Ten.bp_mono h
  have h3 : Ten.bp 9 = 1000000000 := by decide
  omega
theorem rplus_short (x y : Int) (w : World) (h1 : dn x ≤ 9) (h2 : dn y ≤ 9) :
    Calls Tryz.prog 124 #[.string (tx x), .string (tx y)] w (GivesY (tx (x + y)) w) := by
  have SX := Lib.hid (fun W => rshort_yes x W h1)
  have SY := Lib.hid (fun W => rshort_yes y W h2)
  obtain ⟨e1, e2⟩ := sv_bd h1
  obtain ⟨e3, e4⟩ := sv_bd h2
  have NB := Lib.hid (fun W => rnumber_any (x + y) W (by omega) (by omega))
  obtain ⟨A, hA⟩ : ∃ T, T = tx x := ⟨_, rfl⟩
  obtain ⟨B, hB⟩ : ∃ T, T = tx y := ⟨_, rfl⟩
  obtain ⟨T, hT⟩ : ∃ T, T = tx (x + y) := ⟨_, rfl⟩
  rw [← hA] at SX ⊢
  rw [← hB] at SY ⊢
  rw [← hT] at NB ⊢
  clear hA hB hT h1 h2
  go_enter Tryz.func124, Tryz.ntmps124
  go_wp2_with fail
  refine (SX.out w).mono ?_
  rintro e w' ⟨rfl, rfl⟩
  go_wp2_with fail
  refine (SY.out w).mono ?_
  rintro e w' ⟨rfl, rfl⟩
  go_wp2_with fail
  refine (NB.out w).mono ?_
  rintro e w' ⟨rfl, hb⟩
  have HB := Lib.hid hb
  clear hb
  go_wp2
  go_ret
  exact ⟨rfl, HB.out⟩
set_option maxHeartbeats 2000000 in
set_option maxRecDepth 100000 in
theorem rplus_long (x y : Int) (w : World) (hx : dn x ≤ 50000) (hy : dn y ≤ 50000) (h9 : ¬ (dn x ≤ 9 ∧ dn y ≤ 9)) :
    Calls Tryz.prog 124 #[.string (tx x), .string (tx y)] w (GivesY (tx (x + y)) w) := by
  have SX := Lib.hid (fun W => rshort_any x W (by omega))
  have SY := Lib.hid (fun W => rshort_any y W (by omega))
  obtain ⟨b1, hb1⟩ : ∃ b, b = decide (dn x ≤ 9) := ⟨_, rfl⟩
  obtain ⟨b2, hb2⟩ : ∃ b, b = decide (dn y ≤ 9) := ⟨_, rfl⟩
  obtain ⟨m1, hm1⟩ : ∃ m, m = sv x := ⟨_, rfl⟩
  obtain ⟨m2, hm2⟩ : ∃ m, m = sv y := ⟨_, rfl⟩
  obtain ⟨A, hA⟩ : ∃ T, T = tx x := ⟨_, rfl⟩
  obtain ⟨B, hB⟩ : ∃ T, T = tx y := ⟨_, rfl⟩
  rw [← hb1, ← hm1, ← hA] at SX
  rw [← hb2, ← hm2, ← hB] at SY
  have hbb : b1 = false ∨ b1 = true ∧ b2 = false := by
    rw [hb1, hb2]
    by_cases h1 : dn x ≤ 9 <;> by_cases h2 : dn y ≤ 9 <;> simp [h1, h2]
    exact h9 ⟨h1, h2⟩
  obtain ⟨px, hpx⟩ : ∃ b, b = decide (x < 0) := ⟨_, rfl⟩
  obtain ⟨qy, hqy⟩ : ∃ b, b = decide (y < 0) := ⟨_, rfl⟩
  obtain ⟨X, hX⟩ : ∃ X : Int, X = x.natAbs := ⟨_, rfl⟩
  obtain ⟨Y, hY⟩ : ∃ Y : Int, Y = y.natAbs := ⟨_, rfl⟩
  obtain ⟨n, hn⟩ : ∃ n, n = Ten.nl X := ⟨_, rfl⟩
  obtain ⟨k, hk⟩ : ∃ k, k = Ten.nl Y := ⟨_, rfl⟩
  have DX := Lib.hid (fun W => rdg x px X n A hpx hX hn hA W (by omega))
  have DY := Lib.hid (fun W => rdg y qy Y k B hqy hY hk hB W (by omega))
  have HX0 : Hid (0 ≤ X) := Lib.hid (by omega)
  have HY0 : Hid (0 ≤ Y) := Lib.hid (by omega)
  have HXL : Hid (X < Ten.bp n) := Lib.hid (by rw [hn]; exact Ten.nl_lt HX0.out)
  have HYL : Hid (Y < Ten.bp k) := Lib.hid (by rw [hk]; exact Ten.nl_lt HY0.out)
  have hnn : n ≤ 50000 := by
    refine Nat.le_trans (hn ▸ Ten.nl_le ?_) hx
    have := dn_lt HX0.out
    rwa [hX, dn_abs, ← hX] at this
  have hkk : k ≤ 50000 := by
    refine Nat.le_trans (hk ▸ Ten.nl_le ?_) hy
    have := dn_lt HY0.out
    rwa [hY, dn_abs, ← hY] at this
  have HN1 := Lib.hid hn
  have HN2 := Lib.hid hk
  have HR : Hid ((px = qy → (if px = true then -(X + Y) else X + Y) = x + y) ∧ (¬ px = qy → (X < Y → (if qy = true then -(Y - X) else Y - X) = x + y) ∧ (Y ≤ X → (if px = true then -(X - Y) else X - Y) = x + y))) := Lib.hid (by
    rw [hpx, hqy]
    by_cases h1 : x < 0 <;> by_cases h2 : y < 0 <;> simp [h1, h2] <;> omega)
  rw [← hA, ← hB]
  clear hb1 hb2 hm1 hm2 hA hB hpx hqy hX hY hn hk hx hy h9
  go_enter Tryz.func124, Tryz.ntmps124
  go_wp2_with fail
  refine (SX.out w).mono ?_
  rintro e w' ⟨rfl, rfl⟩
  go_wp2_with fail
  refine (SY.out w).mono ?_
  rintro e w' ⟨rfl, rfl⟩
  rcases hbb with rfl | ⟨rfl, rfl⟩
  · go_wp2_with fail
    refine (DX.out w).mono ?_
    rintro e w1 ⟨a1, c1, rfl, hc1, hr1, hb1⟩
    have R1 := Lib.hid hr1
    have B1 := Lib.hid hb1
    have HC1 := Lib.hid hc1
    clear hr1 hb1 hc1
    go_wp2_with fail
    refine (DY.out w1).mono ?_
    rintro e w2 ⟨a2, c2, rfl, hc2, hr2, hb2⟩
    replace R1 := Lib.hid (R1.out.below hb2)
    have R2 := Lib.hid hr2
    have HC2 := Lib.hid hc2
    have B2 := Lib.hid (B1.out.trans (hb2.mono B1.out.size))
    clear hr2 hb2 hc2
    by_cases hpq : px = qy
    · subst hpq
      have hpp : (px == px) = true := by cases px <;> rfl
      have RS := Lib.hid (HR.out.1 rfl)
      clear HR
      go_wp2_with fail
      refine (rsum_any a1 a2 n c1 k c2 X Y w2 HX0.out HXL.out HY0.out HYL.out (by omega) (by omega) R1.out R2.out).mono ?_
      rintro e w3 ⟨a3, n3, c3, rfl, h31, h32, h33, h34, hr3, hb3⟩
      have R3 := Lib.hid hr3
      have B3 := Lib.hid (B2.out.trans (hb3.mono B2.out.size))
      have H31 := Lib.hid h31
      have H33 := Lib.hid h33
      have H34 := Lib.hid h34
      have h35 : n3 ≤ 1000000 := by omega
      clear h31 h32 h33 h34 hr3 hb3
      go_wp2_with fail
      refine (rtext_any px a3 n3 c3 (X + Y) w3 H33.out H34.out H31.out h35 R3.out).mono ?_
      rintro e w4 ⟨rfl, hb4⟩
      have B4 := Lib.hid (B3.out.trans (hb4.mono B3.out.size))
      rw [RS.out]
      obtain ⟨T, hT⟩ : ∃ T, T = tx (x + y) := ⟨_, rfl⟩
      rw [← hT]
      have HT := Lib.hid hT
      clear hb4 hT
      go_wp2
      go_ret
      exact ⟨ret_s HT.out, B4.out⟩
    · have hpp : (px == qy) = false := by rw [beq_eq_false_iff_ne]; exact hpq
      have RD := Lib.hid (HR.out.2 hpq)
      clear HR
      go_wp2_with fail
      refine (rsize_any a1 a2 n c1 k c2 X Y w2 HX0.out HY0.out HN1.out HN2.out (by omega) (by omega) R1.out R2.out).mono ?_
      rintro e w3 ⟨rfl, hb3⟩
      replace R1 := Lib.hid (R1.out.below hb3)
      replace R2 := Lib.hid (R2.out.below hb3)
      have B3 := Lib.hid (B2.out.trans (hb3.mono B2.out.size))
      clear hb3
      by_cases hxy : X < Y
      · have hcm : cmp3 X Y < 0 := by rw [cmp3_lt hxy]; decide
        have HXY := Lib.hid hxy
        have RS := Lib.hid (RD.out.1 hxy)
        generalize cmp3 X Y = cm at *
        clear hxy RD
        go_wp2_with fail
        refine (rdiff_any a2 a1 k c2 n c1 Y X w3 HY0.out HYL.out HX0.out HXL.out (Int.le_of_lt HXY.out) (by omega) (by omega) R2.out R1.out).mono ?_
        rintro e w4 ⟨a4, c4, rfl, h41, h42, hr4, hb4, _⟩
        have R4 := Lib.hid hr4
        have B4 := Lib.hid (B3.out.trans (hb4.mono B3.out.size))
        have H41 := Lib.hid h41
        have H43 := Lib.hid (Ten.nl_lt h42)
        have H42 := Lib.hid h42
        have H44 : Hid (Ten.nl (Y - X) ≤ 1000000) := Lib.hid (Nat.le_trans (Ten.nl_le (k := k) (by have := HYL.out; have := HX0.out; omega)) (by omega))
        clear h41 h42 hr4 hb4
        obtain ⟨n4, hn4⟩ : ∃ n4, n4 = Ten.nl (Y - X) := ⟨_, rfl⟩
        rw [← hn4] at R4 H41 H43 H44 ⊢
        clear hn4
        go_wp2_with fail
        refine (rtext_any qy a4 n4 c4 (Y - X) w4 H42.out H43.out H41.out H44.out R4.out).mono ?_
        rintro e w5 ⟨rfl, hb5⟩
        have B5 := Lib.hid (B4.out.trans (hb5.mono B4.out.size))
        rw [RS.out]
        obtain ⟨T, hT⟩ : ∃ T, T = tx (x + y) := ⟨_, rfl⟩
        rw [← hT]
        have HT := Lib.hid hT
        clear hb5 hT
        go_wp2
        go_ret
        exact ⟨ret_s HT.out, B5.out⟩
      · have hcm : ¬ cmp3 X Y < 0 := by
          rcases Decidable.em (Y < X) with h | h
          · rw [cmp3_gt h]; decide
          · rw [show X = Y by omega, cmp3_eq]; decide
        have hyx : Y ≤ X := by omega
        have HXY := Lib.hid hyx
        have RS := Lib.hid (RD.out.2 hyx)
        generalize cmp3 X Y = cm at *
        clear hxy hyx RD
        go_wp2_with fail
        refine (rdiff_any a1 a2 n c1 k c2 X Y w3 HX0.out HXL.out HY0.out HYL.out HXY.out (by omega) (by omega) R1.out R2.out).mono ?_
        rintro e w4 ⟨a4, c4, rfl, h41, h42, hr4, hb4, _⟩
        have R4 := Lib.hid hr4
        have B4 := Lib.hid (B3.out.trans (hb4.mono B3.out.size))
        have H41 := Lib.hid h41
        have H43 := Lib.hid (Ten.nl_lt h42)
        have H42 := Lib.hid h42
        have H44 : Hid (Ten.nl (X - Y) ≤ 1000000) := Lib.hid (Nat.le_trans (Ten.nl_le (k := n) (by have := HXL.out; have := HY0.out; omega)) (by omega))
        clear h41 h42 hr4 hb4
        obtain ⟨n4, hn4⟩ : ∃ n4, n4 = Ten.nl (X - Y) := ⟨_, rfl⟩
        rw [← hn4] at R4 H41 H43 H44 ⊢
        clear hn4
        go_wp2_with fail
        refine (rtext_any px a4 n4 c4 (X - Y) w4 H42.out H43.out H41.out H44.out R4.out).mono ?_
        rintro e w5 ⟨rfl, hb5⟩
        have B5 := Lib.hid (B4.out.trans (hb5.mono B4.out.size))
        rw [RS.out]
        obtain ⟨T, hT⟩ : ∃ T, T = tx (x + y) := ⟨_, rfl⟩
        rw [← hT]
        have HT := Lib.hid hT
        clear hb5 hT
        go_wp2
        go_ret
        exact ⟨ret_s HT.out, B5.out⟩
  · go_wp2_with fail
    refine (DX.out w).mono ?_
    rintro e w1 ⟨a1, c1, rfl, hc1, hr1, hb1⟩
    have R1 := Lib.hid hr1
    have B1 := Lib.hid hb1
    have HC1 := Lib.hid hc1
    clear hr1 hb1 hc1
    go_wp2_with fail
    refine (DY.out w1).mono ?_
    rintro e w2 ⟨a2, c2, rfl, hc2, hr2, hb2⟩
    replace R1 := Lib.hid (R1.out.below hb2)
    have R2 := Lib.hid hr2
    have HC2 := Lib.hid hc2
    have B2 := Lib.hid (B1.out.trans (hb2.mono B1.out.size))
    clear hr2 hb2 hc2
    by_cases hpq : px = qy
    · subst hpq
      have hpp : (px == px) = true := by cases px <;> rfl
      have RS := Lib.hid (HR.out.1 rfl)
      clear HR
      go_wp2_with fail
      refine (rsum_any a1 a2 n c1 k c2 X Y w2 HX0.out HXL.out HY0.out HYL.out (by omega) (by omega) R1.out R2.out).mono ?_
      rintro e w3 ⟨a3, n3, c3, rfl, h31, h32, h33, h34, hr3, hb3⟩
      have R3 := Lib.hid hr3
      have B3 := Lib.hid (B2.out.trans (hb3.mono B2.out.size))
      have H31 := Lib.hid h31
      have H33 := Lib.hid h33
      have H34 := Lib.hid h34
      have h35 : n3 ≤ 1000000 := by omega
      clear h31 h32 h33 h34 hr3 hb3
      go_wp2_with fail
      refine (rtext_any px a3 n3 c3 (X + Y) w3 H33.out H34.out H31.out h35 R3.out).mono ?_
      rintro e w4 ⟨rfl, hb4⟩
      have B4 := Lib.hid (B3.out.trans (hb4.mono B3.out.size))
      rw [RS.out]
      obtain ⟨T, hT⟩ : ∃ T, T = tx (x + y) := ⟨_, rfl⟩
      rw [← hT]
      have HT := Lib.hid hT
      clear hb4 hT
      go_wp2
      go_ret
      exact ⟨ret_s HT.out, B4.out⟩
    · have hpp : (px == qy) = false := by rw [beq_eq_false_iff_ne]; exact hpq
      have RD := Lib.hid (HR.out.2 hpq)
      clear HR
      go_wp2_with fail
      refine (rsize_any a1 a2 n c1 k c2 X Y w2 HX0.out HY0.out HN1.out HN2.out (by omega) (by omega) R1.out R2.out).mono ?_
      rintro e w3 ⟨rfl, hb3⟩
      replace R1 := Lib.hid (R1.out.below hb3)
      replace R2 := Lib.hid (R2.out.below hb3)
      have B3 := Lib.hid (B2.out.trans (hb3.mono B2.out.size))
      clear hb3
      by_cases hxy : X < Y
      · have hcm : cmp3 X Y < 0 := by rw [cmp3_lt hxy]; decide
        have HXY := Lib.hid hxy
        have RS := Lib.hid (RD.out.1 hxy)
        generalize cmp3 X Y = cm at *
        clear hxy RD
        go_wp2_with fail
        refine (rdiff_any a2 a1 k c2 n c1 Y X w3 HY0.out HYL.out HX0.out HXL.out (Int.le_of_lt HXY.out) (by omega) (by omega) R2.out R1.out).mono ?_
        rintro e w4 ⟨a4, c4, rfl, h41, h42, hr4, hb4, _⟩
        have R4 := Lib.hid hr4
        have B4 := Lib.hid (B3.out.trans (hb4.mono B3.out.size))
        have H41 := Lib.hid h41
        have H43 := Lib.hid (Ten.nl_lt h42)
        have H42 := Lib.hid h42
        have H44 : Hid (Ten.nl (Y - X) ≤ 1000000) := Lib.hid (Nat.le_trans (Ten.nl_le (k := k) (by have := HYL.out; have := HX0.out; omega)) (by omega))
        clear h41 h42 hr4 hb4
        obtain ⟨n4, hn4⟩ : ∃ n4, n4 = Ten.nl (Y - X) := ⟨_, rfl⟩
        rw [← hn4] at R4 H41 H43 H44 ⊢
        clear hn4
        go_wp2_with fail
        refine (rtext_any qy a4 n4 c4 (Y - X) w4 H42.out H43.out H41.out H44.out R4.out).mono ?_
        rintro e w5 ⟨rfl, hb5⟩
        have B5 := Lib.hid (B4.out.trans (hb5.mono B4.out.size))
        rw [RS.out]
        obtain ⟨T, hT⟩ : ∃ T, T = tx (x + y) := ⟨_, rfl⟩
        rw [← hT]
        have HT := Lib.hid hT
        clear hb5 hT
        go_wp2
        go_ret
        exact ⟨ret_s HT.out, B5.out⟩
      · have hcm : ¬ cmp3 X Y < 0 := by
          rcases Decidable.em (Y < X) with h | h
          · rw [cmp3_gt h]; decide
          · rw [show X = Y by omega, cmp3_eq]; decide
        have hyx : Y ≤ X := by omega
        have HXY := Lib.hid hyx
        have RS := Lib.hid (RD.out.2 hyx)
        generalize cmp3 X Y = cm at *
        clear hxy hyx RD
        go_wp2_with fail
        refine (rdiff_any a1 a2 n c1 k c2 X Y w3 HX0.out HXL.out HY0.out HYL.out HXY.out (by omega) (by omega) R1.out R2.out).mono ?_
        rintro e w4 ⟨a4, c4, rfl, h41, h42, hr4, hb4, _⟩
        have R4 := Lib.hid hr4
        have B4 := Lib.hid (B3.out.trans (hb4.mono B3.out.size))
        have H41 := Lib.hid h41
        have H43 := Lib.hid (Ten.nl_lt h42)
        have H42 := Lib.hid h42
        have H44 : Hid (Ten.nl (X - Y) ≤ 1000000) := Lib.hid (Nat.le_trans (Ten.nl_le (k := n) (by have := HXL.out; have := HY0.out; omega)) (by omega))
        clear h41 h42 hr4 hb4
        obtain ⟨n4, hn4⟩ : ∃ n4, n4 = Ten.nl (X - Y) := ⟨_, rfl⟩
        rw [← hn4] at R4 H41 H43 H44 ⊢
        clear hn4
        go_wp2_with fail
        refine (rtext_any px a4 n4 c4 (X - Y) w4 H42.out H43.out H41.out H44.out R4.out).mono ?_
        rintro e w5 ⟨rfl, hb5⟩
        have B5 := Lib.hid (B4.out.trans (hb5.mono B4.out.size))
        rw [RS.out]
        obtain ⟨T, hT⟩ : ∃ T, T = tx (x + y) := ⟨_, rfl⟩
        rw [← hT]
        have HT := Lib.hid hT
        clear hb5 hT
        go_wp2
        go_ret
        exact ⟨ret_s HT.out, B5.out⟩
theorem rplus_any (x y : Int) (w : World) (hx : dn x ≤ 50000) (hy : dn y ≤ 50000) :
    Calls Tryz.prog 124 #[.string (tx x), .string (tx y)] w (GivesY (tx (x + y)) w) := by
  by_cases h : dn x ≤ 9 ∧ dn y ≤ 9
  · exact rplus_short x y w h.1 h.2
  · exact rplus_long x y w hx hy h
theorem ropp_any (x : Int) (w : World) (hx : dn x ≤ 50000) :
    Calls Tryz.prog 112 #[.string (tx x)] w (GivesY (tx (-x)) w) := by
  obtain ⟨px, hpx⟩ : ∃ b, b = decide (x < 0) := ⟨_, rfl⟩
  obtain ⟨X, hX⟩ : ∃ X : Int, X = x.natAbs := ⟨_, rfl⟩
  obtain ⟨n, hn⟩ : ∃ n, n = Ten.nl X := ⟨_, rfl⟩
  obtain ⟨A, hA⟩ : ∃ T, T = tx x := ⟨_, rfl⟩
  have DX := Lib.hid (fun W => rdg x px X n A hpx hX hn hA W (by omega))
  have HX0 : Hid (0 ≤ X) := Lib.hid (by omega)
  have HXL : Hid (X < Ten.bp n) := Lib.hid (by rw [hn]; exact Ten.nl_lt HX0.out)
  have hnn : n ≤ 50000 := by
    refine Nat.le_trans (hn ▸ Ten.nl_le ?_) hx
    have := dn_lt HX0.out
    rwa [hX, dn_abs, ← hX] at this
  have RS : Hid ((if (!px) = true then -X else X) = -x) := Lib.hid (by
    rw [hpx]
    by_cases h1 : x < 0 <;> simp [h1] <;> omega)
  rw [← hA]
  clear hA hpx hX hn hx
  go_enter Tryz.func112, Tryz.ntmps112
  go_wp2_with fail
  refine (DX.out w).mono ?_
  rintro e w1 ⟨a1, c1, rfl, hc1, hr1, hb1⟩
  have R1 := Lib.hid hr1
  have B1 := Lib.hid hb1
  have HC1 := Lib.hid hc1
  clear hr1 hb1 hc1
  go_wp2_with fail
  refine (rtext_any (!px) a1 n c1 X w1 HX0.out HXL.out HC1.out (by omega) R1.out).mono ?_
  rintro e w4 ⟨rfl, hb4⟩
  have B4 := Lib.hid (B1.out.trans (hb4.mono B1.out.size))
  rw [RS.out]
  obtain ⟨T, hT⟩ : ∃ T, T = tx (-x) := ⟨_, rfl⟩
  rw [← hT]
  have HT := Lib.hid hT
  clear hb4 hT
  go_wp2
  go_ret
  exact ⟨ret_s HT.out, B4.out⟩
theorem rpos_any (x : Int) (w : World) (hx : dn x ≤ 50000) :
    Calls Tryz.prog 127 #[.string (tx x)] w (GivesY (tx (x.natAbs : Int)) w) := by
  obtain ⟨px, hpx⟩ : ∃ b, b = decide (x < 0) := ⟨_, rfl⟩
  obtain ⟨X, hX⟩ : ∃ X : Int, X = x.natAbs := ⟨_, rfl⟩
  obtain ⟨n, hn⟩ : ∃ n, n = Ten.nl X := ⟨_, rfl⟩
  obtain ⟨A, hA⟩ : ∃ T, T = tx x := ⟨_, rfl⟩
  have DX := Lib.hid (fun W => rdg x px X n A hpx hX hn hA W (by omega))
  have HX0 : Hid (0 ≤ X) := Lib.hid (by omega)
  have HXL : Hid (X < Ten.bp n) := Lib.hid (by rw [hn]; exact Ten.nl_lt HX0.out)
  have hnn : n ≤ 50000 := by
    refine Nat.le_trans (hn ▸ Ten.nl_le ?_) hx
    have := dn_lt HX0.out
    rwa [hX, dn_abs, ← hX] at this
  rw [← hA, ← hX]
  clear hA hpx hX hn hx
  go_enter Tryz.func127, Tryz.ntmps127
  go_wp2_with fail
  refine (DX.out w).mono ?_
  rintro e w1 ⟨a1, c1, rfl, hc1, hr1, hb1⟩
  have R1 := Lib.hid hr1
  have B1 := Lib.hid hb1
  have HC1 := Lib.hid hc1
  clear hr1 hb1 hc1
  go_wp2_with fail
  refine (rtext_any false a1 n c1 X w1 HX0.out HXL.out HC1.out (by omega) R1.out).mono ?_
  rintro e w4 ⟨rfl, hb4⟩
  have B4 := Lib.hid (B1.out.trans (hb4.mono B1.out.size))
  simp only [Bool.false_eq_true, if_false]
  obtain ⟨T, hT⟩ : ∃ T, T = tx X := ⟨_, rfl⟩
  rw [← hT]
  have HT := Lib.hid hT
  clear hb4 hT
  go_wp2
  go_ret
  exact ⟨ret_s HT.out, B4.out⟩
theorem rminus_any (x y : Int) (w : World) (hx : dn x ≤ 50000) (hy : dn y ≤ 50000) :
    Calls Tryz.prog 183 #[.string (tx x), .string (tx y)] w (GivesY (tx (x - y)) w) := by
  have OP := Lib.hid (fun W => ropp_any y W hy)
  have PL := Lib.hid (fun W => rplus_any x (-y) W hx (by rw [dn_neg]; exact hy))
  rw [show x + -y = x - y by omega] at PL
  obtain ⟨A, hA⟩ : ∃ T, T = tx x := ⟨_, rfl⟩
  obtain ⟨B, hB⟩ : ∃ T, T = tx y := ⟨_, rfl⟩
  obtain ⟨C, hC⟩ : ∃ T, T = tx (-y) := ⟨_, rfl⟩
  obtain ⟨T, hT⟩ : ∃ T, T = tx (x - y) := ⟨_, rfl⟩
  rw [← hB, ← hC] at OP
  rw [← hA, ← hC, ← hT] at PL
  rw [← hA, ← hB, ← hT]
  clear hA hB hC hT hx hy
  go_enter Tryz.func183, Tryz.ntmps183
  go_wp2_with fail
  refine (OP.out w).mono ?_
  rintro e w1 ⟨rfl, hb1⟩
  have B1 := Lib.hid hb1
  clear hb1
  go_wp2_with fail
  refine (PL.out w1).mono ?_
  rintro e w2 ⟨rfl, hb2⟩
  have B2 := Lib.hid (B1.out.trans (hb2.mono B1.out.size))
  clear hb2
  go_wp2
  go_ret
  exact ⟨rfl, B2.out⟩
set_option maxHeartbeats 2000000 in
theorem rcompare_any (x y : Int) (w : World) (hx : dn x ≤ 50000) (hy : dn y ≤ 50000) :
    Calls Tryz.prog 121 #[.string (tx x), .string (tx y)] w (GivesI (cmp3 x y) w) := by
  obtain ⟨A, hA⟩ : ∃ T, T = tx x := ⟨_, rfl⟩
  obtain ⟨B, hB⟩ : ∃ T, T = tx y := ⟨_, rfl⟩
  obtain ⟨px, hpx⟩ : ∃ b, b = decide (x < 0) := ⟨_, rfl⟩
  obtain ⟨qy, hqy⟩ : ∃ b, b = decide (y < 0) := ⟨_, rfl⟩
  obtain ⟨X, hX⟩ : ∃ X : Int, X = x.natAbs := ⟨_, rfl⟩
  obtain ⟨Y, hY⟩ : ∃ Y : Int, Y = y.natAbs := ⟨_, rfl⟩
  obtain ⟨n, hn⟩ : ∃ n, n = Ten.nl X := ⟨_, rfl⟩
  obtain ⟨k, hk⟩ : ∃ k, k = Ten.nl Y := ⟨_, rfl⟩
  have DX := Lib.hid (fun W => rdg x px X n A hpx hX hn hA W (by omega))
  have DY := Lib.hid (fun W => rdg y qy Y k B hqy hY hk hB W (by omega))
  have HX0 : Hid (0 ≤ X) := Lib.hid (by omega)
  have HY0 : Hid (0 ≤ Y) := Lib.hid (by omega)
  have HXL : Hid (X < Ten.bp n) := Lib.hid (by rw [hn]; exact Ten.nl_lt HX0.out)
  have HYL : Hid (Y < Ten.bp k) := Lib.hid (by rw [hk]; exact Ten.nl_lt HY0.out)
  have hnn : n ≤ 50000 := by
    refine Nat.le_trans (hn ▸ Ten.nl_le ?_) hx
    have := dn_lt HX0.out
    rwa [hX, dn_abs, ← hX] at this
  have hkk : k ≤ 50000 := by
    refine Nat.le_trans (hk ▸ Ten.nl_le ?_) hy
    have := dn_lt HY0.out
    rwa [hY, dn_abs, ← hY] at this
  have HN1 := Lib.hid hn
  have HN2 := Lib.hid hk
  have HR : Hid ((px = true → qy = false → cmp3 x y = -1) ∧ (px = false → qy = true → cmp3 x y = 1) ∧ (px = true → qy = true → cmp3 x y = cmp3 Y X) ∧ (px = false → qy = false → cmp3 x y = cmp3 X Y)) := Lib.hid (by
    rw [hpx, hqy]
    unfold cmp3
    by_cases h1 : x < 0 <;> by_cases h2 : y < 0 <;> simp [h1, h2] <;> (repeat' split) <;> omega)
  rw [← hA, ← hB]
  clear hA hB hpx hqy hX hY hn hk hx hy
  go_enter Tryz.func121, Tryz.ntmps121
  go_wp2_with fail
  refine (DX.out w).mono ?_
  rintro e w1 ⟨a1, c1, rfl, hc1, hr1, hb1⟩
  have R1 := Lib.hid hr1
  have B1 := Lib.hid hb1
  clear hr1 hb1 hc1
  go_wp2_with fail
  refine (DY.out w1).mono ?_
  rintro e w2 ⟨a2, c2, rfl, hc2, hr2, hb2⟩
  replace R1 := Lib.hid (R1.out.below hb2)
  have R2 := Lib.hid hr2
  have B2 := Lib.hid (B1.out.trans (hb2.mono B1.out.size))
  clear hr2 hb2 hc2
  cases px <;> cases qy
  · go_wp2_with fail
    refine (rsize_any a1 a2 n c1 k c2 X Y w2 HX0.out HY0.out HN1.out HN2.out (by omega) (by omega) R1.out R2.out).mono ?_
    rintro e w3 ⟨rfl, hb3⟩
    have B3 := Lib.hid (B2.out.trans (hb3.mono B2.out.size))
    clear hb3
    go_wp2
    go_ret
    exact ⟨ret_i (HR.out.2.2.2 (by trivial) (by trivial)).symm, B3.out⟩
  · go_wp2
    go_ret
    exact ⟨ret_i (HR.out.2.1 (by trivial) (by trivial)).symm, B2.out⟩
  · go_wp2
    go_ret
    exact ⟨ret_i (HR.out.1 (by trivial) (by trivial)).symm, B2.out⟩
  · go_wp2_with fail
    refine (rsize_any a2 a1 k c2 n c1 Y X w2 HY0.out HX0.out HN2.out HN1.out (by omega) (by omega) R2.out R1.out).mono ?_
    rintro e w3 ⟨rfl, hb3⟩
    have B3 := Lib.hid (B2.out.trans (hb3.mono B2.out.size))
    clear hb3
    go_wp2
    go_ret
    exact ⟨ret_i (HR.out.2.2.1 (by trivial) (by trivial)).symm, B3.out⟩
end Go.Proofs.YtkhebidmfjbhaaaGreatDoor
