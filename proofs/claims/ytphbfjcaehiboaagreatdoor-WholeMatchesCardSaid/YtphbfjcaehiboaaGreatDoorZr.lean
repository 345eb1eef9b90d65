/-
  What euclid.run does: the greatest common divisor, and what its factors are.
  What number.gcd returns.
  What whole.Gcd returns.
  What number.bezout returns.
  What whole.Bezout returns.
  What the laws' awake returns: the chapter's examples hold.
  Small facts on texts and the number of digits.
-/
import Derived.Test.YtphbfjcaehiboaaGreatDoorZq
import Derived.Test.YtphbfjcaehiboaaGreatDoorZn
import Derived.Test.YtphbfjcaehiboaaGreatDoorZm
namespace Go.Proofs.YtphbfjcaehiboaaGreatDoor
open Go.RowKit

theorem Lp.le {A B C D a b : Int} (h : Lp A B C D a b) : A * a + B * b ≤ max a b := by
  have hx := h.x0
  have hy := h.y0
  rcases h.sgn with ⟨h1, h2, h3, h4, h5⟩ | ⟨h1, h2, h3, h4, h5⟩
  · have e : D * (A * a + B * b) - B * (C * a + D * b) = a := by
      clear hx hy
      grind
    have hD : 1 ≤ D := by
      rcases Int.lt_or_le 0 D with k | k
      · omega
      · have : D = 0 := by omega
        rw [this, Int.mul_zero] at h5
        have := Int.mul_nonneg_of_nonpos_of_nonpos h2 h3
        omega
    have e2 : 1 * (A * a + B * b) ≤ D * (A * a + B * b) := Int.mul_le_mul_of_nonneg_right hD hx
    have e3 := Int.mul_nonpos_of_nonpos_of_nonneg h2 hy
    omega
  · have e : C * (A * a + B * b) - A * (C * a + D * b) = b := by
      clear hx hy
      grind
    have e2 : 1 * (A * a + B * b) ≤ C * (A * a + B * b) := Int.mul_le_mul_of_nonneg_right h3 hx
    have e3 := Int.mul_nonpos_of_nonpos_of_nonneg h1 hy
    omega
/-- A stage of the run: G is the greatest common divisor, at most k rounds are to come. -/
def Stage (w W : World) (g : Nat) (M m C G : Int) (k : Nat) : Prop :=
  ∃ va vb vs vt mn a b s t, Below g w W ∧ EB W g va vb vs vt mn a b s t ∧ RI M m C a b s t mn ∧ (Int.gcd a b : Int) = G ∧ nl a ≤ 20000 ∧ nl b ≤ 20000 ∧ b.toNat ≤ k
def Ran (w : World) (g : Nat) (M m C G : Int) (e : Ending) (W : World) : Prop :=
  e = .returned (.tuple #[]) ∧ Below g w W ∧ ∃ va vb vs vt mn s t, EB W g va vb vs vt mn G 0 s t ∧ RI M m C G 0 s t mn
set_option maxHeartbeats 2000000 in
set_option maxRecDepth 100000 in
theorem run_any (g : Nat) (w : World) (va vb vs vt : Value) (mn : Bool) (a b s t M m C : Int) (h : EB w g va vb vs vt mn a b s t) (hr : RI M m C a b s t mn) (hC : nl (2000000000 * (C + 1)) ≤ 20000) (ha9 : nl a ≤ 20000) (hb9 : nl b ≤ 20000) :
    Calls Tryz.prog 118 #[.pointer (some ⟨g, 0, none⟩)] w (Ran w g M m C (Int.gcd a b)) := by
  obtain ⟨G, hG⟩ : ∃ G : Int, G = Int.gcd a b := ⟨_, rfl⟩
  rw [← hG]
  have ST := Lib.hid (show Stage w w g M m C G b.toNat from ⟨va, vb, vs, vt, mn, a, b, s, t, Below.refl _ _, h, hr, hG.symm, ha9, hb9, Nat.le_refl _⟩)
  clear h hr hG ha9 hb9
  go_enter Tryz.func118, Tryz.ntmps118
  go_wp2
  go_loopg [] b.toNat (fun gk wr => Stage w wr g M m C G gk)
  case atStart => exact ST.out
  case round =>
    clear ST
    obtain ⟨va, vb, vs, vt, mn, a, b, s, t, hbe, he, hr, hg, ha9, hb9, hk⟩ := hrel
    obtain ⟨c0, c1⟩ := he.cb
    have hb0 := hr.b0
    have EH := Lib.hid (he.step (alloc_below _ (.cells #[vb] 64)))
    have HB := Lib.hid (hbe.trans ((alloc_below _ (.cells #[vb] 64)).mono (Nat.le_of_lt he.lt)))
    have IZ := Lib.hid (isZero_any vb b wr he.nb)
    obtain ⟨a2, n2, rfl, x1, x2, x3, x4, x5⟩ := he.nb.form
    clear x1 x2 x3 x4 x5 he hbe
    have RH := Lib.hid hr
    have HG := Lib.hid hg
    clear hr hg
    go_wp2_with fail
    refine IZ.out.mono ?_
    rintro e w1 ⟨rfl, hw1⟩
    have HW1 := Lib.hid hw1
    rw [HW1.out] at EH HB
    clear hw1 IZ
    by_cases hz : b = 0
    · rw [decide_eq_true hz]
      go_wp2
      go_end0
      refine ⟨rfl, HB.out, va, .slice a2 n2 n2, vs, vt, mn, s, t, ?_, ?_⟩
      · have e := EH.out
        have r := RH.out
        have gg := HG.out
        subst hz
        rw [Int.gcd_zero_right] at gg
        have := r.a0
        rw [show G = a by omega]
        exact e
      · have r := RH.out
        have gg := HG.out
        subst hz
        rw [Int.gcd_zero_right] at gg
        have := r.a0
        rw [show G = a by omega]
        exact r
    · rw [decide_eq_false hz]
      have hbp : 0 < b := by omega
      have s9 : nl s ≤ 20000 := by
        have r := RH.out
        have := r.C0
        exact Nat.le_trans (nl_mono (by omega) r.sD) hC
      have t9 : nl t ≤ 20000 := by
        have r := RH.out
        have := r.C0
        exact Nat.le_trans (nl_mono (by omega) r.tD) hC
      have LEAP := Lib.hid (leap_any g w1 _ _ _ _ mn a b s t EH.out hbp ha9 hb9 s9 t9)
      clear c0 c1
      go_wp2_with fail
      refine LEAP.out.mono ?_
      clear LEAP
      rintro e w2 ⟨hb2, ⟨rfl, x, y, z, u, he2⟩ | ⟨rfl, A, B, C', D, x, y, z, u, hlp, hB, hap, he2⟩⟩
      · have STEP := Lib.hid (step_any g w2 _ _ _ _ mn a b s t he2 hbp ha9 s9 t9)
        have HB2 := Lib.hid (HB.out.trans hb2)
        clear he2 hb2
        go_wp2_with fail
        refine STEP.out.mono ?_
        clear STEP
        rintro e w3 ⟨rfl, hb3, x', y', z', u', he3⟩
        have HE3 := Lib.hid he3
        have HB3 := Lib.hid (HB2.out.trans hb3)
        clear he3 hb3
        have hm0 := Int.emod_nonneg a (show b ≠ 0 by omega)
        have hm1 := Int.emod_lt_of_pos a hbp
        go_wp2
        go_roundg (a % b).toNat
        case measure => omega
        case rel =>
          exact ⟨_, _, _, _, _, _, _, _, _, HB3.out, HE3.out, RH.out.step hbp, (gcd_emod a b).trans HG.out, hb9, Nat.le_trans (nl_mono hb0 (by omega)) hb9, Nat.le_refl _⟩
      · have HE2 := Lib.hid he2
        have HB2 := Lib.hid (HB.out.trans hb2)
        have HL := Lib.hid hlp
        have hlt := hlp.lt hB
        have hy0 := hlp.y0
        have hle := hlp.le
        clear he2 hb2 hlp
        have ha0 := RH.out.a0
        go_wp2
        go_roundg (C' * a + D * b).toNat
        case measure => omega
        case rel =>
          have hp := HL.out
          exact ⟨_, _, _, _, _, _, _, _, _, HB2.out, HE2.out, RH.out.leap hap hbp hp.sgn hp.a9 hp.b9 hp.c9 hp.d9 hp.x0 hp.y0, (by rw [gcd_blend (by rcases hp.sgn with ⟨_, _, _, _, q⟩ | ⟨_, _, _, _, q⟩; exact Or.inl q; exact Or.inr q)]; exact HG.out), Nat.le_trans (nl_mono (by omega) hle) (by rcases Int.le_total a b with q | q; rw [Int.max_eq_right q]; exact hb9; rw [Int.max_eq_left q]; exact ha9), Nat.le_trans (nl_mono hb0 (by omega)) hb9, Nat.le_refl _⟩
end Go.Proofs.YtphbfjcaehiboaaGreatDoor
namespace Go.Proofs.YtphbfjcaehiboaaGreatDoor
open Go.RowKit

theorem slot5_new (W : World) (u0 u1 u2 u3 u4 : Value) (t : TypeId) (r : Nat) (hr : r = W.heap.size) :
    Slot (W.alloc (.cells #[u0, u1, u2, u3, u4] t)) r 0 u0 ∧ Slot (W.alloc (.cells #[u0, u1, u2, u3, u4] t)) r 1 u1 ∧ Slot (W.alloc (.cells #[u0, u1, u2, u3, u4] t)) r 2 u2 ∧ Slot (W.alloc (.cells #[u0, u1, u2, u3, u4] t)) r 3 u3 ∧ Slot (W.alloc (.cells #[u0, u1, u2, u3, u4] t)) r 4 u4 := by
  refine ⟨⟨?_, ?_⟩, ⟨?_, ?_⟩, ⟨?_, ?_⟩, ⟨?_, ?_⟩, ⟨?_, ?_⟩⟩ <;> first | (rw [World.frozen?_alloc_at _ _ _ _ hr]) | (rw [World.cell?_alloc_at _ _ _ _ hr]; rfl)
theorem eb_new {W : World} {va vb vs vt : Value} {mn : Bool} {a b s t : Int} (ty : TypeId) (na : NatV W va a) (nb : NatV W vb b) (ns : NatV W vs s) (nt : NatV W vt t) : EB (W.alloc (.cells #[va, vb, vs, vt, .bool mn] ty)) W.heap.size va vb vs vt mn a b s t := by
  obtain ⟨h0, h1, h2, h3, h4⟩ := slot5_new W va vb vs vt (.bool mn) ty _ rfl
  have hb := alloc_below W (.cells #[va, vb, vs, vt, .bool mn] ty)
  exact ⟨h0.lt, h0, h1, h2, h3, h4, na.below hb, nb.below hb, ns.below hb, nt.below hb⟩
theorem ri_gcd {a b : Int} (ha : 0 ≤ a) (hb : 0 ≤ b) : RI 0 1 0 a b 0 0 false :=
  ⟨ha, hb, Int.le_refl _, Int.le_refl _, by rw [Int.mul_zero, Int.mul_zero]; rfl, by omega, by omega, Int.one_dvd _, Int.one_dvd _⟩
theorem gcd_abs (x y : Int) : (Int.gcd (x.natAbs : Int) (y.natAbs : Int) : Int) = Int.gcd x y := by
  unfold Int.gcd
  simp
set_option maxHeartbeats 1000000 in
set_option maxRecDepth 100000 in
theorem gcd_num (u v : Value) (x y : Int) (w : World) (hu : NatV w u x.natAbs) (hv : NatV w v y.natAbs) (hx : nl x.natAbs ≤ 20000) (hy : nl y.natAbs ≤ 20000) :
    Calls Tryz.prog 96 #[.agg #[u, .bool (decide (x < 0))], .agg #[v, .bool (decide (y < 0))]] w (GivesZ (Int.gcd x y) w) := by
  rw [← gcd_abs]
  have hx0 := hu.1
  have hy0 := hv.1
  obtain ⟨X, hX⟩ : ∃ X : Int, X = x.natAbs := ⟨_, rfl⟩
  obtain ⟨Y, hY⟩ : ∃ Y : Int, Y = y.natAbs := ⟨_, rfl⟩
  rw [← hX] at hu hx hx0 ⊢
  rw [← hY] at hv hy hy0 ⊢
  obtain ⟨bx, hbx⟩ : ∃ bx, bx = decide (x < 0) := ⟨_, rfl⟩
  obtain ⟨by', hby⟩ : ∃ by', by' = decide (y < 0) := ⟨_, rfl⟩
  rw [← hbx, ← hby]
  clear hX hY hbx hby
  have HU := Lib.hid hu
  have HV := Lib.hid hv
  obtain ⟨a, n, rfl, x1, x2, x3, x4, x5⟩ := hu.form
  clear x1 x2 x3 x4 x5
  obtain ⟨c, m, rfl, x1, x2, x3, x4, x5⟩ := hv.form
  clear x1 x2 x3 x4 x5 hu hv
  obtain ⟨W1, hW1⟩ : ∃ W1, W1 = ((w.alloc (.cells #[.slice a n n, .bool bx] 66)).alloc (.cells #[.slice c m m, .bool by'] 66)).alloc (.cells #[.slice none 0 0, .bool false] 66) := ⟨_, rfl⟩
  have hbx := box3 w (.slice a n n) bx (.slice c m m) by' 66
  rw [← hW1] at hbx
  obtain ⟨z0, hb0, d00, d01, d10, d11, s0⟩ := hbx
  have he0 := eb_new (mn := false) 127 (HU.out.below hb0) (HV.out.below hb0) (NatV.zero W1) (NatV.zero W1)
  rw [z0] at he0
  have E2 := Lib.hid he0
  clear he0
  have R2 := Lib.hid (s0.below (alloc_below W1 (.cells #[.slice a n n, .slice c m m, .slice none 0 0, .slice none 0 0, .bool false] 127)) (by omega))
  have B2 := Lib.hid (hb0.alloc hb0.size (.cells #[.slice a n n, .slice c m m, .slice none 0 0, .slice none 0 0, .bool false] 127))
  go_enter Tryz.func96, Tryz.ntmps96
  go_upto_region 1 with fail
  rw [← hW1]
  clear hW1
  go_cut [5] from 6 (fun p W => ∃ g, p = .pointer (some ⟨g, 0, none⟩) ∧ Below w.heap.size w W ∧ Res W (w.heap.size + 1 + 1) ∧ w.heap.size + 1 + 1 < g ∧ EB W g (.slice a n n) (.slice c m m) (.slice none 0 0) (.slice none 0 0) false X Y 0 0)
  case first =>
    go_wp2_with fail
    go_meet
    case rel => exact ⟨_, rfl, B2.out, R2.out, by omega, E2.out⟩
  case rest =>
    obtain ⟨g, rfl, hb2, hr2, hg, he2⟩ := hcut
    have RUN := Lib.hid (run_any g wc _ _ _ _ false X Y 0 0 0 1 0 he2 (ri_gcd hx0 hy0) (Nat.le_trans (nl_le (k := 2) (by decide)) (by decide)) hx hy)
    have B3 := Lib.hid hb2
    have R3 := Lib.hid hr2
    clear hb2 hr2 he2 E2 R2 B2 d00 d01 d10 d11 hb0 s0
    go_wp2_with fail
    refine RUN.out.mono ?_
    clear RUN
    rintro e w5 ⟨rfl, hb5, va, vb, vs, vt, mn, s, t, he5, hr5⟩
    have hlt := he5.lt
    have SG := Lib.hid (signed_no va _ w5 he5.na)
    obtain ⟨c0, c1⟩ := he5.ca
    obtain ⟨p5, l5, rfl, x1, x2, x3, x4, x5⟩ := he5.na.form
    clear x1 x2 x3 x4 x5
    have hgs := B3.out.size
    have B5 := Lib.hid (B3.out.trans (hb5.mono (show w.heap.size ≤ g by omega)))
    have R5 := Lib.hid (R3.out.below hb5 hg)
    clear hb5 he5 hr5
    go_wp2_with fail
    refine SG.out.mono ?_
    clear SG
    rintro e w6 ⟨v6, rfl, hv6, hb6⟩
    obtain ⟨q0, q1, q2, q3⟩ := R5.out.below hb6 (by omega)
    obtain ⟨s6, hs6⟩ : ∃ s6, s6 = decide (((Int.gcd X Y : Nat) : Int) < 0) := ⟨_, rfl⟩
    rw [← hs6]
    have HS6 := Lib.hid hs6
    have V6 := Lib.hid hv6
    have B6 := Lib.hid (B5.out.trans (hb6.mono (by omega)))
    obtain ⟨a6, n6, rfl, x1, x2, x3, x4, x5⟩ := hv6.form
    clear x1 x2 x3 x4 x5 hs6 hv6 hb6
    go_wp2
    exact bodyPost_ret (v := .agg #[.slice a6 n6 n6, .bool s6]) (by simp [results, Tryz.results96, go_sem, q0, q1]) rfl ⟨_, by rw [HS6.out], storeN V6.out q0 q1 _ _, below_set (below_set B6.out 0 (by omega) _) 1 (by omega) _⟩
end Go.Proofs.YtphbfjcaehiboaaGreatDoor
namespace Go.Proofs.YtphbfjcaehiboaaGreatDoor
open Go.RowKit

theorem gcd_le (x y : Int) : Int.gcd x y ≤ max x.natAbs y.natAbs := by
  rcases Decidable.em (x = 0) with h | h
  · subst h; rw [Int.gcd_zero_left]; omega
  · have := Nat.le_of_dvd (by omega) (Int.natAbs_dvd_natAbs.2 (Int.gcd_dvd_left x y))
    simp at this
    omega
theorem combine_gcd (x y : Int) (w : World) (hx : dn x ≤ 1000) (hy : dn y ≤ 1000) :
    Calls Tryz.prog 48 #[.string (tx x), .string (tx y), .func (.func 96) #[] #[]] w (GivesX ((Int.gcd x y : Int)) w) := by
  have HP1 := Lib.hid (parse_tx x w hx)
  have HP2 := Lib.hid (fun W => parse_tx y W hy)
  have hx1 := nl_112 (x := (x.natAbs : Int)) (by omega) (by rw [dn_abs]; exact hx)
  have hy1 := nl_112 (x := (y.natAbs : Int)) (by omega) (by rw [dn_abs]; exact hy)
  have hop : ∀ W u v, NatV W u x.natAbs → NatV W v y.natAbs → Calls Tryz.prog 96 #[.agg #[u, .bool (decide (x < 0))], .agg #[v, .bool (decide (y < 0))]] W (GivesZ ((Int.gcd x y : Int)) W) := fun W u v hu hv => gcd_num u v x y W hu hv (by omega) (by omega)
  have htx : ∀ W v s, s = decide ((Int.gcd x y : Int) < 0) → NatV W v ((Int.gcd x y : Int)).natAbs → Calls Tryz.prog 60 #[.agg #[v, .bool s]] W (GivesX ((Int.gcd x y : Int)) W) := fun W v s e h => by subst e; exact text_any v _ W h
  obtain ⟨bx, hbx⟩ : ∃ bx, bx = decide (x < 0) := ⟨_, rfl⟩
  obtain ⟨by', hby⟩ : ∃ by', by' = decide (y < 0) := ⟨_, rfl⟩
  obtain ⟨X, hX⟩ : ∃ X, X = tx x := ⟨_, rfl⟩
  obtain ⟨Y, hY⟩ : ∃ Y, Y = tx y := ⟨_, rfl⟩
  rw [← hX] at HP1 ⊢
  rw [← hY] at HP2 ⊢
  rw [← hbx, ← hby] at hop
  have OP := Lib.hid hop
  have TX := Lib.hid htx
  have HBX := Lib.hid hbx
  have HBY := Lib.hid hby
  clear hbx hby hX hY hop htx hx1 hy1
  go_enter Tryz.func48, Tryz.ntmps48
  go_wp2_with fail
  refine HP1.out.mono ?_
  rintro e w1 ⟨v1, rfl, hv1, hb1⟩
  rw [← HBX.out]
  obtain ⟨a, n, rfl, hn, _, _, _, _⟩ := hv1.form
  have HN := Lib.hid hn
  have B2 := Lib.hid (hb1.alloc hb1.size (.cells #[.slice a n n, .bool bx] 66))
  have C2 := Lib.hid (cell2_new w1 (.slice a n n) (.bool bx) 66)
  have N2 := Lib.hid (hv1.below (alloc_below' w1 (.cells #[.slice a n n, .bool bx] 66)))
  have hz2 : (w1.alloc (.cells #[.slice a n n, .bool bx] 66)).heap.size = w1.heap.size + 1 := by simp
  have Z2 := Lib.hid hz2
  obtain ⟨K1, hK1⟩ : ∃ K1, K1 = w1.heap.size := ⟨_, rfl⟩
  rw [← hK1] at C2 Z2
  clear hv1 hb1 hn hz2
  have HK1 := Lib.hid hK1
  clear hK1
  go_wp2_with fail
  rw [← HK1.out]
  generalize w1.alloc (.cells #[.slice a n n, .bool bx] 66) = W2 at *
  refine (HP2.out W2).mono ?_
  rintro e w3 ⟨v3, rfl, hv3, hb3⟩
  rw [← HBY.out]
  obtain ⟨c, m, rfl, hm, _, _, _, _⟩ := hv3.form
  have HM := Lib.hid hm
  have hb4 := hb3.alloc hb3.size (.cells #[.slice c m m, .bool by'] 66)
  have B4 := Lib.hid (B2.out.trans (hb4.mono B2.out.size))
  have C4 := Lib.hid (cell2_new w3 (.slice c m m) (.bool by') 66)
  have N4 := Lib.hid (hv3.below (alloc_below' w3 (.cells #[.slice c m m, .bool by'] 66)))
  have M4 := Lib.hid (N2.out.below hb4)
  have c0 := (below_at hb4 0 (show K1 < W2.heap.size by rw [Z2.out]; omega)).trans C2.out.1
  have c1 := (below_at hb4 1 (show K1 < W2.heap.size by rw [Z2.out]; omega)).trans C2.out.2
  have c2 := C4.out.1
  have c3 := C4.out.2
  obtain ⟨K3, hK3⟩ : ∃ K3, K3 = w3.heap.size := ⟨_, rfl⟩
  rw [← hK3] at c2 c3
  have HK3 := Lib.hid hK3
  clear hv3 hb3 hm hb4 C2 C4 hK3
  go_wp2_with fail
  rw [← HK3.out]
  generalize w3.alloc (.cells #[.slice c m m, .bool by'] 66) = W4 at *
  refine (OP.out W4 _ _ M4.out N4.out).mono ?_
  rintro e w5 ⟨v5, rfl, hv5, hb5⟩
  obtain ⟨s5, hs5⟩ : ∃ s5, s5 = decide (((Int.gcd x y : Int)) < 0) := ⟨_, rfl⟩
  rw [← hs5]
  have S5 := Lib.hid hs5
  have B5 := Lib.hid (B4.out.trans (hb5.mono B4.out.size))
  obtain ⟨d, k, rfl, hk, _, _, _, _⟩ := hv5.form
  have HK := Lib.hid hk
  have N5 := Lib.hid hv5
  clear hs5 hb5 hk hv5 c0 c1 c2 c3
  go_wp2_with fail
  refine (TX.out w5 _ s5 S5.out N5.out).mono ?_
  rintro e w6 ⟨rfl, hb6⟩
  have B6 := Lib.hid (B5.out.trans (hb6.mono B5.out.size))
  obtain ⟨T, hT⟩ : ∃ T, T = (if dn ((Int.gcd x y : Int)) ≤ 1000 then tx ((Int.gcd x y : Int)) else ⟨#[]⟩) := ⟨_, rfl⟩
  obtain ⟨E, hE⟩ : ∃ E : Int, E = (if dn ((Int.gcd x y : Int)) ≤ 1000 then 0 else 3) := ⟨_, rfl⟩
  rw [← hT, ← hE]
  have HT := Lib.hid hT
  have HE := Lib.hid hE
  clear hT hE hb6
  go_wp2
  go_ret2
  exact ⟨by rw [← HT.out, ← HE.out]; rfl, B6.out⟩
theorem Gcd_slow (x y : Int) (w : World) (hx : dn x ≤ 1000) (hy : dn y ≤ 1000) (hn : ¬ ((tx x).size ≤ 18 ∧ (tx y).size ≤ 18)) :
    Calls Tryz.prog 62 #[.string (tx x), .string (tx y)] w (GivesX ((Int.gcd x y : Int)) w) := by
  obtain ⟨a, b, hwd⟩ := words_tx x y w hx hy hn
  have WD := Lib.hid hwd
  have hcb := combine_gcd x y w hx hy
  have CB := Lib.hid hcb
  obtain ⟨X, hX⟩ : ∃ X, X = tx x := ⟨_, rfl⟩
  obtain ⟨Y, hY⟩ : ∃ Y, Y = tx y := ⟨_, rfl⟩
  rw [← hX, ← hY] at WD CB ⊢
  clear hn
  clear hwd hcb hX hY
  go_enter Tryz.func62, Tryz.ntmps62
  go_wp2_with fail
  refine WD.out.mono ?_
  rintro e w' ⟨rfl, rfl⟩
  go_wp2_with fail
  refine CB.out.mono ?_
  rintro e w' ⟨rfl, hb⟩
  have HB := Lib.hid hb
  obtain ⟨T, hT⟩ : ∃ T, T = (if dn ((Int.gcd x y : Int)) ≤ 1000 then tx ((Int.gcd x y : Int)) else ⟨#[]⟩) := ⟨_, rfl⟩
  obtain ⟨E, hE⟩ : ∃ E : Int, E = (if dn ((Int.gcd x y : Int)) ≤ 1000 then 0 else 3) := ⟨_, rfl⟩
  rw [← hT, ← hE]
  clear hb
  have HT := Lib.hid hT
  have HE := Lib.hid hE
  clear hT hE
  go_wp2
  go_ret2
  exact ⟨by rw [← HT.out, ← HE.out]; rfl, HB.out⟩
theorem Gcd_fast (x y : Int) (w : World) (tb : Tb w) (h1 : (tx x).size ≤ 18) (h2 : (tx y).size ≤ 18) :
    Calls Tryz.prog 62 #[.string (tx x), .string (tx y)] w (GivesX ((Int.gcd x y : Int)) w) := by
  have h4 := short_bd h1
  have h5 := short_bd h2
  have hb : 0 ≤ (Int.gcd x y : Int) ∧ (Int.gcd x y : Int) < 2000000000000000000 := by
    have := gcd_le x y
    omega
  have GW := Lib.hid (fun W => gcdWord_any x y W (by omega) (by omega) (by omega) (by omega))
  have hd : dn ((Int.gcd x y : Int)) ≤ 1000 := dn_word (by omega) (by omega)
  have WD := Lib.hid (words_yes x y w h1 h2)
  have hof := fun W (h : Below w.heap.size w W) => of_any (Int.gcd x y : Int) W (tb.below h) (by omega) (by omega)
  have OF := Lib.hid hof
  unfold GivesX
  rw [if_pos hd, if_pos hd]
  obtain ⟨X, hX⟩ : ∃ X, X = tx x := ⟨_, rfl⟩
  obtain ⟨Y, hY⟩ : ∃ Y, Y = tx y := ⟨_, rfl⟩
  obtain ⟨T, hT⟩ : ∃ T, T = tx ((Int.gcd x y : Int)) := ⟨_, rfl⟩
  rw [← hT] at OF ⊢
  rw [← hX] at WD h1 ⊢
  rw [← hY] at WD h2 ⊢
  clear hof hX hY tb hd hT
  go_enter Tryz.func62, Tryz.ntmps62
  go_wp2_with fail
  refine WD.out.mono ?_
  rintro e w' ⟨rfl, rfl⟩
  go_wp2_with fail
  refine (GW.out _).mono ?_
  rintro e w1 ⟨rfl, hb1⟩
  have HB1 := Lib.hid hb1
  clear hb1
  go_wp2_with fail
  refine (OF.out w1 HB1.out).mono ?_
  rintro e w2 ⟨rfl, hb⟩
  have HB := Lib.hid (HB1.out.trans (hb.mono HB1.out.size))
  clear hb
  go_wp2
  go_ret2
  exact ⟨rfl, HB.out⟩
theorem Gcd_tx (x y : Int) (w : World) (tb : Tb w) (hx : dn x ≤ 1000) (hy : dn y ≤ 1000) :
    Calls Tryz.prog 62 #[.string (tx x), .string (tx y)] w (GivesX ((Int.gcd x y : Int)) w) := by
  by_cases hn : (tx x).size ≤ 18 ∧ (tx y).size ≤ 18
  · exact Gcd_fast x y w tb hn.1 hn.2
  · exact Gcd_slow x y w hx hy hn
theorem Gcd_bad (s t : ByteArray) (w : World) (hs : s.size ≤ 9223372036854775807) (ht : t.size ≤ 9223372036854775807) (h : isT s.data.toList = false ∨ isT t.data.toList = false) :
    Calls Tryz.prog 62 #[.string s, .string t] w (GivesEr 1 w) := by
  obtain ⟨a, b, hwd⟩ := words_bad s t w hs ht h
  have WD := Lib.hid hwd
  have CB := Lib.hid (fun f => combine_bad s t f w hs ht h)
  clear hwd h
  go_enter Tryz.func62, Tryz.ntmps62
  go_wp2_with fail
  refine WD.out.mono ?_
  rintro e w' ⟨rfl, rfl⟩
  go_wp2_with fail
  refine (CB.out _).mono ?_
  rintro e w' ⟨rfl, hb⟩
  have HB := Lib.hid hb
  clear hb
  go_wp2
  go_ret2
  exact ⟨rfl, HB.out⟩
end Go.Proofs.YtphbfjcaehiboaaGreatDoor
namespace Go.Proofs.YtphbfjcaehiboaaGreatDoor
open Go.RowKit

/-- A number in two cells. -/
structure NB (W : World) (k : Nat) (v : Value) (b : Bool) (x : Int) : Prop where
  c : Slot W k 0 v
  d : Slot W k 1 (.bool b)
  n : NatV W v x
theorem NB.step {W W' : World} {k : Nat} {v : Value} {b : Bool} {x : Int} (h : NB W k v b x) (hb : Below W.heap.size W W') : NB W' k v b x := ⟨h.c.below hb h.c.lt, h.d.below hb h.d.lt, h.n.below hb⟩
theorem NB.new {W : World} {v : Value} {b : Bool} {x : Int} (t : TypeId) (h : NatV W v x) (r : Nat) (hr : r = W.heap.size) : NB (W.alloc (.cells #[v, .bool b] t)) r v b x :=
  ⟨(slot2_new W _ _ t r hr).1, (slot2_new W _ _ t r hr).2, h.below (alloc_below _ _)⟩
/-- Another number is written into the box r. -/
theorem NB.far {W : World} {k r : Nat} {v u a' : Value} {b c b' : Bool} {x y : Int} (h : NB W k v b x) (hr : NB W r u c y) (hk : k ≠ r) : NB ((W.setCell ⟨r, 0, none⟩ a').setCell ⟨r, 1, none⟩ (.bool b')) k v b x :=
  ⟨slot_two h.c (fun e => absurd e hk) (fun e => absurd e hk), slot_two h.d (fun e => absurd e hk) (fun e => absurd e hk), store2s h.n hr.n hr.c.1 hr.d.1 _ _⟩
theorem NB.put {W : World} {r : Nat} {u a' : Value} {c b' : Bool} {x y : Int} (hr : NB W r u c y) (h : NatV W a' x) : NB ((W.setCell ⟨r, 0, none⟩ a').setCell ⟨r, 1, none⟩ (.bool b')) r a' b' x :=
  ⟨slotO_other (slotO_same hr.c) (fun _ => by omega), slotO_same (slotO_other hr.d (fun _ => by omega)), store2s h hr.n hr.c.1 hr.d.1 _ _⟩
theorem EB.far {W : World} {g r : Nat} {va vb vs vt u a' : Value} {mn c b' : Bool} {a b s t y : Int} (h : EB W g va vb vs vt mn a b s t) (hr : NB W r u c y) (hk : g ≠ r) : EB ((W.setCell ⟨r, 0, none⟩ a').setCell ⟨r, 1, none⟩ (.bool b')) g va vb vs vt mn a b s t :=
  ⟨by rw [World.size_setCell, World.size_setCell]; exact h.lt, slot_two h.ca (fun e => absurd e hk) (fun e => absurd e hk), slot_two h.cb (fun e => absurd e hk) (fun e => absurd e hk), slot_two h.cs (fun e => absurd e hk) (fun e => absurd e hk), slot_two h.ct (fun e => absurd e hk) (fun e => absurd e hk), slot_two h.cm (fun e => absurd e hk) (fun e => absurd e hk),
    store2s h.na hr.n hr.c.1 hr.d.1 _ _, store2s h.nb hr.n hr.c.1 hr.d.1 _ _, store2s h.ns hr.n hr.c.1 hr.d.1 _ _, store2s h.nt hr.n hr.c.1 hr.d.1 _ _⟩
theorem ri_bez {X Y : Int} (hX : 0 ≤ X) (hY : 0 ≤ Y) : RI X Y Y X Y 1 0 false := by
  refine ⟨hX, hY, by omega, by omega, by omega, by omega, by omega, ?_, ?_⟩
  · unfold mg
    simp
  · rw [Int.zero_mul, Int.mul_zero, Int.add_zero]
    exact Int.dvd_refl _
/-- The factor of x that the run ends with. -/
def s0 (mn : Bool) (x s : Int) : Int := if (mn != decide (x < 0)) = true then -s else s
theorem s0_dvd {x y s t : Int} {mn : Bool} (h : RI x.natAbs y.natAbs y.natAbs (Int.gcd x y) 0 s t mn) : y ∣ (Int.gcd x y : Int) - x * s0 mn x s := by
  have h1 := h.d1
  have e : x * s0 mn x s = mg mn * (s * x.natAbs) := by
    unfold s0 mg
    by_cases hx : x < 0
    · rw [decide_eq_true hx, show (x.natAbs : Int) = -x by omega]
      cases mn
      · simp <;> grind
      · simp <;> grind
    · rw [decide_eq_false hx, show (x.natAbs : Int) = x by omega]
      cases mn
      · simp <;> grind
      · simp <;> grind
  rw [e]
  exact Int.natAbs_dvd.1 h1
theorem s0_abs {mn : Bool} {x s : Int} (h : 0 ≤ s) : ((s0 mn x s).natAbs : Int) = s := by
  unfold s0
  split <;> omega
/-- The call hands back three integers. -/
def GivesZ3 (x y z : Int) (w : World) (e : Ending) (w' : World) : Prop := ∃ v u t, e = .returned (.tuple #[.agg #[v, .bool (decide (x < 0))], .agg #[u, .bool (decide (y < 0))], .agg #[t, .bool (decide (z < 0))]]) ∧ NatV w' v x.natAbs ∧ NatV w' u y.natAbs ∧ NatV w' t z.natAbs ∧ Below w.heap.size w w'
/-- The numbers of Bezout. -/
def Bez (A B x y : Int) : Prop := 0 ≤ x ∧ x < per A B ∧ A * x + B * y = Int.gcd A B
/-- What stays through the body: both numbers and the three results. -/
structure BZ (w W : World) (u v : Value) (bx bs : Bool) (X Y : Int) (A : Value) (Ab : Bool) (a : Int) (B : Value) (Bb : Bool) (b : Int) (C : Value) (Cb : Bool) (c : Int) : Prop where
  below : Below w.heap.size w W
  p0 : NB W w.heap.size u bx X
  p1 : NB W (w.heap.size + 1) v bs Y
  r0 : NB W (w.heap.size + 1 + 1) A Ab a
  r1 : NB W (w.heap.size + 1 + 1 + 1) B Bb b
  r2 : NB W (w.heap.size + 1 + 1 + 1 + 1) C Cb c
theorem BZ.step {w W W' : World} {u v A B C : Value} {bx bs Ab Bb Cb : Bool} {X Y a b c : Int} (h : BZ w W u v bx bs X Y A Ab a B Bb b C Cb c) (hb : Below W.heap.size W W') : BZ w W' u v bx bs X Y A Ab a B Bb b C Cb c :=
  ⟨h.below.trans (hb.mono h.below.size), h.p0.step hb, h.p1.step hb, h.r0.step hb, h.r1.step hb, h.r2.step hb⟩
/-- The callee writes from block g on. -/
theorem BZ.over {w W W' : World} {u v A B C : Value} {bx bs Ab Bb Cb : Bool} {X Y a b c : Int} {g : Nat} (h : BZ w W u v bx bs X Y A Ab a B Bb b C Cb c) (hg : w.heap.size + 1 + 1 + 1 + 1 < g) (hb : Below g W W')
    (nu : NatV W' u X) (nv : NatV W' v Y) (nA : NatV W' A a) (nB : NatV W' B b) (nC : NatV W' C c) : BZ w W' u v bx bs X Y A Ab a B Bb b C Cb c :=
  ⟨h.below.trans (hb.mono (by omega)), ⟨h.p0.c.below hb (by omega), h.p0.d.below hb (by omega), nu⟩, ⟨h.p1.c.below hb (by omega), h.p1.d.below hb (by omega), nv⟩, ⟨h.r0.c.below hb (by omega), h.r0.d.below hb (by omega), nA⟩, ⟨h.r1.c.below hb (by omega), h.r1.d.below hb (by omega), nB⟩, ⟨h.r2.c.below hb (by omega), h.r2.d.below hb (by omega), nC⟩⟩
theorem BZ.put0 {w W : World} {u v A B C A' : Value} {bx bs Ab Bb Cb Ab' : Bool} {X Y a b c a' : Int} (h : BZ w W u v bx bs X Y A Ab a B Bb b C Cb c) (hn : NatV W A' a') :
    BZ w ((W.setCell ⟨w.heap.size + 1 + 1, 0, none⟩ A').setCell ⟨w.heap.size + 1 + 1, 1, none⟩ (.bool Ab')) u v bx bs X Y A' Ab' a' B Bb b C Cb c :=
  ⟨below_set (below_set h.below 0 (by omega) _) 1 (by omega) _, h.p0.far h.r0 (by omega), h.p1.far h.r0 (by omega), h.r0.put hn, h.r1.far h.r0 (by omega), h.r2.far h.r0 (by omega)⟩
theorem BZ.put1 {w W : World} {u v A B C A' : Value} {bx bs Ab Bb Cb Ab' : Bool} {X Y a b c a' : Int} (h : BZ w W u v bx bs X Y A Ab a B Bb b C Cb c) (hn : NatV W A' a') :
    BZ w ((W.setCell ⟨w.heap.size + 1 + 1 + 1, 0, none⟩ A').setCell ⟨w.heap.size + 1 + 1 + 1, 1, none⟩ (.bool Ab')) u v bx bs X Y A Ab a A' Ab' a' C Cb c :=
  ⟨below_set (below_set h.below 0 (by omega) _) 1 (by omega) _, h.p0.far h.r1 (by omega), h.p1.far h.r1 (by omega), h.r0.far h.r1 (by omega), h.r1.put hn, h.r2.far h.r1 (by omega)⟩
theorem BZ.put2 {w W : World} {u v A B C A' : Value} {bx bs Ab Bb Cb Ab' : Bool} {X Y a b c a' : Int} (h : BZ w W u v bx bs X Y A Ab a B Bb b C Cb c) (hn : NatV W A' a') :
    BZ w ((W.setCell ⟨w.heap.size + 1 + 1 + 1 + 1, 0, none⟩ A').setCell ⟨w.heap.size + 1 + 1 + 1 + 1, 1, none⟩ (.bool Ab')) u v bx bs X Y A Ab a B Bb b A' Ab' a' :=
  ⟨below_set (below_set h.below 0 (by omega) _) 1 (by omega) _, h.p0.far h.r2 (by omega), h.p1.far h.r2 (by omega), h.r0.far h.r2 (by omega), h.r1.far h.r2 (by omega), h.r2.put hn⟩
theorem SKB {w V W : World} {u v A B C : Value} {bx bs Ab Bb Cb : Bool} {X Y a b c : Int} (h : BZ w V u v bx bs X Y A Ab a B Bb b C Cb c) (hb : Below V.heap.size V W) :
    (W.cell? ⟨w.heap.size, 0, none⟩ = some u ∧ W.cell? ⟨w.heap.size + 1, 0, none⟩ = some v) ∧ Below V.heap.size V W :=
  ⟨⟨(h.step hb).p0.c.1, (h.step hb).p1.c.1⟩, hb⟩
theorem eb_zero (W : World) (t : TypeId) : EB (W.alloc (.cells #[.slice none 0 0, .slice none 0 0, .slice none 0 0, .slice none 0 0, .bool false] t)) W.heap.size (.slice none 0 0) (.slice none 0 0) (.slice none 0 0) (.slice none 0 0) false 0 0 0 0 :=
  eb_new t (NatV.zero W) (NatV.zero W) (NatV.zero W) (NatV.zero W)
theorem till_after {P : Program} {ops : Array Oper} {Q : Exit → Act → World → Prop} {md : Region.Mode} {S : World → Prop} {M i : Nat} {oi : Oper} {v : Value} {fuel : Nat} {listed : Array Bool} {a : Act} {w : World} (hi : ops[i]? = some oi) (hM : (M == i) = false)
    (hs : Region.noSelect ops = true) (hf : Region.free md ops listed i = true) (hr : (Region.ready md ops listed).contains i = true)
    (hQ : ∀ c a w, Q (.panic c) (a.put oi.dst v) w → Q (.panic c) a w) (hL : listed.getD M true = true) (hy : YieldsIf P ops (fun _ => True) oi v a)
    (h : wpTill P md ops Q S M fuel (listed.setIfInBounds i true) (a.put oi.dst v) w) : wpTill P md ops Q S M (fuel + 1) listed a w :=
  wpTill.first (D := []) hi (by simpa using hM) (Region.noSelect_spec hs) hQ fuel listed a w (Region.free_spec hi hf) (by simpa using hr) (Or.inl fun _ => trivial) hy (fun e => by rw [hL] at e; cases e) h
/-- Two boxes of one cell behind a call. -/
theorem two_new {W : World} {a b : Value} {t1 t2 : TypeId} : Slot ((W.alloc (.cells #[a] t1)).alloc (.cells #[b] t2)) W.heap.size 0 a := (slot_new W a t1 _ rfl).below (alloc_below _ _) (by rw [World.size_alloc]; omega)
set_option maxHeartbeats 8000000 in
set_option maxRecDepth 100000 in
theorem bezout_num (u v : Value) (x y : Int) (w : World) (hu : NatV w u x.natAbs) (hv : NatV w v y.natAbs) (hy : y ≠ 0) (hx9 : nl x.natAbs ≤ 10000) (hy9 : nl y.natAbs ≤ 10000) :
    Calls Tryz.prog 98 #[.agg #[u, .bool (decide (x < 0))], .agg #[v, .bool (decide (y < 0))]] w (fun e w' => ∃ x' y', Bez x y x' y' ∧ GivesZ3 (Int.gcd x y) x' y' w e w') := by
  have hx0 := hu.1
  have hy0 := hv.1
  have hgp := gcd_pos (A := x) hy
  have hpp := per_pos (A := x) hy
  have hpm := per_mul (A := x) (B := y)
  have hN : per x y = (y.natAbs : Int) / (Int.gcd x y : Int) := rfl
  have hbz := fun s (h : y ∣ (Int.gcd x y : Int) - x * s) => bez hy h
  have hsd := fun s t mn (h : RI x.natAbs y.natAbs y.natAbs (Int.gcd x y) 0 s t mn) => s0_dvd h
  have hG := gcd_abs x y
  have hgl := gcd_le x y
  have BEZ : Hid (∀ X1 : Int, 0 ≤ X1 → X1 < per x y → x * X1 + y * ((Int.gcd x y : Int) - x * X1).fdiv y = Int.gcd x y → Bez x y X1 (((Int.gcd x y : Int) - x * X1).fdiv y)) := fun _ h1 h2 h3 => ⟨h1, h2, h3⟩
  obtain ⟨X, hX⟩ : ∃ X : Int, X = x.natAbs := ⟨_, rfl⟩
  obtain ⟨Y, hY⟩ : ∃ Y : Int, Y = y.natAbs := ⟨_, rfl⟩
  rw [← hX] at hu hx9 hx0 hsd hG
  rw [← hY] at hv hy9 hy0 hsd hG hN hpm
  unfold s0 at hsd
  obtain ⟨G, hGe⟩ : ∃ G : Int, G = (Int.gcd x y : Int) := ⟨_, rfl⟩
  rw [← hGe] at BEZ hbz hsd hG hN hgp hpm ⊢
  obtain ⟨N, hNe⟩ : ∃ N : Int, N = per x y := ⟨_, rfl⟩
  rw [← hNe] at BEZ hbz hN hpp hpm
  have hGl : nl G ≤ 10000 := by
    rcases Nat.le_total x.natAbs y.natAbs with h | h
    · exact Nat.le_trans (nl_mono hy0 (by omega)) hy9
    · exact Nat.le_trans (nl_mono hx0 (by omega)) hx9
  have hNl : nl N ≤ 10000 := by
    refine Nat.le_trans (nl_mono hy0 ?_) hy9
    rw [hN]
    exact Int.ediv_le_self _ hy0
  have TM0 := fun W X1 v1 v2 (h1 : NatV W v1 X) (h2 : NatV W v2 (X1.natAbs : Int)) (hl : nl X1.natAbs ≤ 10000) => times_any v1 v2 x X1 W (by rw [← hX]; exact h1) h2 (by rw [← hX]; omega) (by omega)
  have DM0 := fun W Z v1 v2 (h1 : NatV W v1 (Z.natAbs : Int)) (h2 : NatV W v2 Y) (hl : nl Z.natAbs ≤ 40000) => dm_any v1 v2 Z y W h1 (by rw [← hY]; exact h2) hy hl (by rw [← hY]; omega)
  have hxm : ∀ X1 : Int, 0 ≤ X1 → nl X1 ≤ 10000 → nl (x * X1).natAbs ≤ 20000 ∧ nl (G - x * X1).natAbs ≤ 20001 := by
    intro X1 h1 h2
    have e : ((x * X1).natAbs : Int) = X * X1 := by rw [Int.natAbs_mul, Int.natCast_mul, ← hX, show (X1.natAbs : Int) = X1 by omega]
    have h3 := nl_mul hx0 h1 (x := X)
    refine ⟨by rw [e]; omega, ?_⟩
    have h4 := Int.mul_nonneg hx0 h1
    have h5 := nl_add (x := G) (y := X * X1) (by omega) h4
    refine Nat.le_trans (nl_mono (y := G + X * X1) (by omega) ?_) (by omega)
    rw [← e]
    omega
  obtain ⟨bx, hbx⟩ : ∃ bx, bx = decide (x < 0) := ⟨_, rfl⟩
  obtain ⟨by', hby⟩ : ∃ by', by' = decide (y < 0) := ⟨_, rfl⟩
  rw [← hbx] at TM0 hsd ⊢
  rw [← hby] at DM0 ⊢
  have TMH := Lib.hid TM0
  have DMH := Lib.hid DM0
  have HSD := Lib.hid hsd
  have HBZ := Lib.hid hbz
  have HXM := Lib.hid hxm
  have HXY := Lib.hid (show (0 ≤ X ∧ 0 ≤ Y) ∧ (0 < G ∧ 0 < N) ∧ N = Y / G from ⟨⟨hx0, hy0⟩, ⟨hgp, hpp⟩, hN⟩)
  have SM := Lib.hid (fun W => small_any 1 W (by omega) (by omega))
  have hC : nl (2000000000 * (Y + 1)) ≤ 10010 := by
    have h1 := nl_mul (x := 2000000000) (y := Y + 1) (by omega) (by omega)
    have h2 := nl_add (x := Y) (y := 1) hy0 (by omega)
    have h3 : nl 1 ≤ 1 := nl_small (by omega)
    have h4 : nl 2000000000 ≤ 2 := nl_le (by decide)
    omega
  have HC := Lib.hid hC
  have RUN0 := Lib.hid (fun g W u v s t (h : EB W g u v s t false X Y 1 0) => run_any g W u v s t false X Y 1 0 X Y Y h (ri_bez hx0 hy0) (Nat.le_trans hC (by omega)) (by omega) (by omega))
  rw [hG] at RUN0
  clear hX hY hGe hNe hbx hby TM0 DM0 hsd hbz hxm hC hpm hN hgl hy
  have HU := Lib.hid hu
  have HV := Lib.hid hv
  obtain ⟨a1, n1, rfl, x1, x2, x3, x4, x5⟩ := hu.form
  clear x1 x2 x3 x4 x5
  obtain ⟨a2, n2, rfl, x1, x2, x3, x4, x5⟩ := hv.form
  clear x1 x2 x3 x4 x5 hu hv hx0 hy0 hgp hpp
  obtain ⟨W2, hW2⟩ : ∃ W2, W2 = (w.alloc (.cells #[.slice a1 n1 n1, .bool bx] 66)).alloc (.cells #[.slice a2 n2 n2, .bool by'] 66) := ⟨_, rfl⟩
  obtain ⟨W5, hW5⟩ : ∃ W5, W5 = ((W2.alloc (.cells #[.slice none 0 0, .bool false] 66)).alloc (.cells #[.slice none 0 0, .bool false] 66)).alloc (.cells #[.slice none 0 0, .bool false] 66) := ⟨_, rfl⟩
  have z2 : W2.heap.size = w.heap.size + 1 + 1 := by rw [hW2, World.size_alloc, World.size_alloc]
  have z5 : W5.heap.size = w.heap.size + 1 + 1 + 1 + 1 + 1 := by rw [hW5, World.size_alloc, World.size_alloc, World.size_alloc, z2]
  have hw2 : Below w.heap.size w W2 := by rw [hW2]; exact below_more (below_more (Below.refl _ _))
  have hw5 : Below W2.heap.size W2 W5 := by rw [hW5]; exact below_more (below_more (below_more (Below.refl _ _)))
  have BZ0 : Hid (BZ w W5 (.slice a1 n1 n1) (.slice a2 n2 n2) bx by' X Y (.slice none 0 0) false 0 (.slice none 0 0) false 0 (.slice none 0 0) false 0) := by
    refine Lib.hid ⟨hw2.trans (hw5.mono hw2.size), ?_, ?_, ?_, ?_, ?_⟩
    · refine NB.step ?_ hw5
      rw [hW2]
      exact (NB.new 66 HU.out _ rfl).step (alloc_below _ _)
    · refine NB.step ?_ hw5
      rw [hW2]
      exact NB.new 66 (HV.out.below (alloc_below _ _)) _ (by rw [World.size_alloc])
    · rw [hW5]
      exact ((NB.new 66 (NatV.zero _) _ z2.symm).step (alloc_below _ _)).step (alloc_below _ _)
    · rw [hW5]
      exact (NB.new 66 (NatV.zero _) _ (by rw [World.size_alloc, z2])).step (alloc_below _ _)
    · rw [hW5]
      exact NB.new 66 (NatV.zero _) _ (by rw [World.size_alloc, World.size_alloc, z2])
  have c0 := BZ0.out.p0.c.1
  have c1 := BZ0.out.p1.c.1
  rw [hW2] at hW5
  have Z5 := Lib.hid z5
  clear hw2 hw5 hW2 z2 z5
  go_enter Tryz.func98, Tryz.ntmps98
  go_upto_region 1 with fail
  rw [← hW5]
  clear hW5
  go_cut [7] from 10 (fun p W => ∃ g q l, p = .pointer (some ⟨g, 0, none⟩) ∧ BZ w W (.slice a1 n1 n1) (.slice a2 n2 n2) bx by' X Y (.slice none 0 0) false 0 (.slice none 0 0) false 0 (.slice none 0 0) false 0 ∧ w.heap.size + 1 + 1 + 1 + 1 < g ∧ EB W g (.slice a1 n1 n1) (.slice a2 n2 n2) (.slice q l l) (.slice none 0 0) false X Y 1 0)
  case first =>
    go_region_held3 (fun W => (W.cell? ⟨w.heap.size, 0, none⟩ = some (.slice a1 n1 n1) ∧ W.cell? ⟨w.heap.size + 1, 0, none⟩ = some (.slice a2 n2 n2)) ∧ Below W5.heap.size W5 W) ((refine SKB BZ0.out ?_; (repeat (first | with_reducible exact HB1.out | with_reducible exact below_drew _ | with_reducible exact Below.refl _ _ | with_reducible refine Below.drew ?_ | with_reducible refine below_set ?_ _ (by first | exact Nat.le_refl _ | exact HS1.out) _ | with_reducible refine below_more ?_)))) (first | (go_at_call 92; have hH := ‹(_ ∧ _) ∧ Below W5.heap.size W5 _›; (with_reducible refine Calls.mono (SM.out _) ?_); rintro e w1 ⟨v1, rfl, hv1, hb1⟩; have HB1 := Lib.hid (hH.2.trans (hb1.mono hH.2.size)); have HS1 := Lib.hid HB1.out.size; (try (refine with_fact (p := EB w1 W5.heap.size (.slice none 0 0) (.slice none 0 0) (.slice none 0 0) (.slice none 0 0) false 0 0 0 0) ?_ (fun z => ?_); focus (refine EB.step ?_ hb1; (repeat (first | with_reducible exact eb_zero _ _ | with_reducible refine EB.drew ?_)); done))); (try (have f0 := z.ca.1; have f1 := z.ca.2; have f2 := z.cb.1; have f3 := z.cb.2; have f4 := z.cs.1; have f5 := z.cs.2; have f6 := z.ct.1; have f7 := z.ct.2; have f8 := z.cm.1; have f9 := z.cm.2)); clear hH; obtain ⟨q1, l1, rfl, x1, x2, x3, x4, x5⟩ := hv1.form; clear x1 x2 x3 x4 x5; have V1 := Lib.hid hv1; clear hv1 hb1))
    all_goals (go_wp2_with fail; go_meet; case rel => first | exact ⟨_, q1, l1, rfl, BZ0.out.step (below_more HB1.out), by have := HS1.out; have := Z5.out; omega, eb_new _ ((HU.out.below BZ0.out.below).below HB1.out) ((HV.out.below BZ0.out.below).below HB1.out) V1.out (NatV.zero _)⟩ | exact ⟨_, q1, l1, rfl, BZ0.out.step (below_set (below_set (below_set (below_set (below_set HB1.out 0 (Nat.le_refl _) _) 1 (Nat.le_refl _) _) 2 (Nat.le_refl _) _) 3 (Nat.le_refl _) _) 4 (Nat.le_refl _) _), by have := Z5.out; omega, ((z.put01 ((HU.out.below BZ0.out.below).below HB1.out) ((HV.out.below BZ0.out.below).below HB1.out)).put23 (nat_two V1.out z.ca z.cb (by omega)) (NatV.zero _)).put4 false⟩)
  case rest =>
    obtain ⟨g, q, l, rfl, hbz, hg, heb⟩ := hcut
    have B0 := Lib.hid hbz
    have RUN := Lib.hid (RUN0.out g wc _ _ _ _ heb)
    clear hbz heb c0 c1 RUN0 SM BZ0
    go_wp2_with fail
    refine RUN.out.mono ?_
    clear RUN
    rintro e w5 ⟨rfl, hb5, va, vb, vs, vt, mn, s, t, he5, hr5⟩
    have hbw := B0.out.below.trans (hb5.mono (show w.heap.size ≤ g by omega))
    have B1 := Lib.hid (B0.out.over hg hb5 (HU.out.below hbw) (HV.out.below hbw) (NatV.zero _) (NatV.zero _) (NatV.zero _))
    obtain ⟨q, l, rfl, x1, x2, x3, x4, x5⟩ := he5.na.form
    clear x1 x2 x3 x4 x5
    obtain ⟨p, o, rfl, x1, x2, x3, x4, x5⟩ := he5.nb.form
    clear x1 x2 x3 x4 x5
    obtain ⟨r, m, rfl, x1, x2, x3, x4, x5⟩ := he5.ns.form
    clear x1 x2 x3 x4 x5
    obtain ⟨d, i, rfl, x1, x2, x3, x4, x5⟩ := he5.nt.form
    clear x1 x2 x3 x4 x5
    have E1 := Lib.hid he5
    have SG0 := Lib.hid (signed_no _ _ w5 he5.na)
    have hsn : nl s ≤ 10010 := Nat.le_trans (nl_mono (by have := hr5.C0; omega) hr5.sD) HC.out
    have hs0 := hr5.s0
    have hsd := HSD.out s t mn hr5
    obtain ⟨⟨hX0, hY0⟩, ⟨hG0, hN0⟩, hNG⟩ := HXY.out
    obtain ⟨S0, hS0⟩ : ∃ S0 : Int, S0 = (if (mn != bx) = true then -s else s) := ⟨_, rfl⟩
    rw [← hS0] at hsd
    have hSa : (S0.natAbs : Int) = s := by rw [hS0]; split <;> omega
    have hSl : nl S0.natAbs ≤ 10010 := by rw [hSa]; exact hsn
    obtain ⟨hX1, hX2, hX3, hX4⟩ := HBZ.out S0 hsd
    obtain ⟨X1, hXe⟩ : ∃ X1 : Int, X1 = S0.fmod N := ⟨_, rfl⟩
    rw [← hXe] at hX1 hX2 hX3 hX4
    have hXl : nl X1.natAbs ≤ 10000 := Nat.le_trans (nl_mono (by omega) (by omega)) hNl
    obtain ⟨hxa, hxb⟩ := HXM.out X1 hX1 (by rw [show X1 = (X1.natAbs : Int) by omega]; exact hXl)
    have BZE := Lib.hid (BEZ.out X1 hX1 hX2 hX3)
    have SG1 := Lib.hid (fun W (h : NatV W (.slice r m m) s) => signed_any _ (mn != bx) s W h)
    rw [← hS0] at SG1
    have DVH := Lib.hid (fun W (h1 : NatV W (.slice a2 n2 n2) Y) (h2 : NatV W (.slice q l l) G) => divide_any _ _ Y G W h1 h2 hG0 (by omega))
    rw [← hNG] at DVH
    have SG2 := Lib.hid (fun W c8 n8 (h : NatV W (.slice c8 n8 n8) N) => signed_no _ N W h)
    have DM1 := Lib.hid (fun W s7 s9 v7 v9 (e7 : s7 = decide (S0 < 0)) (e9 : s9 = decide (N < 0)) (h7 : NatV W v7 (S0.natAbs : Int)) (h9 : NatV W v9 (N.natAbs : Int)) => (show Calls Tryz.prog 59 #[.agg #[v7, .bool s7], .agg #[v9, .bool s9]] W (GivesZZ (S0.fdiv N) (S0.fmod N) W) from by rw [e7, e9]; exact dm_any v7 v9 S0 N W h7 h9 (by omega) (by omega) (by rw [show (N.natAbs : Int) = N by omega]; omega)))
    rw [← hXe] at DM1
    have TM := Lib.hid (fun W v2 s4 (e4 : s4 = decide (X1 < 0)) (h1 : NatV W (.slice a1 n1 n1) X) (h2 : NatV W v2 (X1.natAbs : Int)) => (show Calls Tryz.prog 54 #[.agg #[.slice a1 n1 n1, .bool bx], .agg #[v2, .bool s4]] W (GivesZ (x * X1) W) from by rw [e4]; exact TMH.out W X1 _ v2 h1 h2 hXl))
    have LS := Lib.hid (fun W v3 s3 v7 s7 (e3 : s3 = decide (G < 0)) (e7 : s7 = decide (x * X1 < 0)) (h3 : NatV W v3 (G.natAbs : Int)) (h7 : NatV W v7 ((x * X1).natAbs : Int)) => (show Calls Tryz.prog 52 #[.agg #[v3, .bool s3], .agg #[v7, .bool s7]] W (GivesZ (G - x * X1) W) from by rw [e3, e7]; exact less_any v3 v7 G (x * X1) W h3 h7 (by rw [show (G.natAbs : Int) = G by omega]; omega) (by omega)))
    have DM2 := Lib.hid (fun W v9 s9 (e9 : s9 = decide (G - x * X1 < 0)) (h9 : NatV W v9 ((G - x * X1).natAbs : Int)) (h2 : NatV W (.slice a2 n2 n2) Y) => (show Calls Tryz.prog 59 #[.agg #[v9, .bool s9], .agg #[.slice a2 n2 n2, .bool by']] W (GivesZZ ((G - x * X1).fdiv y) ((G - x * X1).fmod y) W) from by rw [e9]; exact DMH.out W _ v9 _ h9 h2 (by omega)))
    obtain ⟨c0, c1⟩ := he5.ca
    have NABS := Lib.hid (show (N.natAbs : Int) = N by omega)
    clear hb5 he5 hr5 hbw hsd hsn hs0 hSa hSl hS0 hX1 hX2 hX3 hX4 hXl hxa hxb hXe hX0 hY0 hG0 hN0 hNG HSD HBZ HXM TMH DMH HC HXY BEZ B0 hGl hNl hG
    go_upto_region 3 with fail
    go_cut [] from 17 (fun W => ∃ c3 n3 s3, s3 = decide (G < 0) ∧ BZ w W (.slice a1 n1 n1) (.slice a2 n2 n2) bx by' X Y (.slice c3 n3 n3) s3 G.natAbs (.slice none 0 0) false 0 (.slice none 0 0) false 0 ∧ EB W g (.slice q l l) (.slice p o o) (.slice r m m) (.slice d i i) mn G 0 s t)
    case first =>
      go_wp2_with fail
      refine SG0.out.mono ?_
      rintro e w6 ⟨v6, rfl, hv6, hb6⟩
      have B6 := Lib.hid (B1.out.step hb6)
      have E6 := Lib.hid (E1.out.step hb6)
      obtain ⟨c3, n3, rfl, x1, x2, x3, x4, x5⟩ := hv6.form
      clear x1 x2 x3 x4 x5
      have V6 := Lib.hid hv6
      obtain ⟨s3, hs3⟩ : ∃ s3, s3 = decide (G < 0) := ⟨_, rfl⟩
      rw [← hs3]
      obtain ⟨b1, b2⟩ := B6.out.r0.c
      obtain ⟨b3, b4⟩ := B6.out.r0.d
      have HS3 := Lib.hid hs3
      clear hv6 hb6 hs3
      go_wp2_with fail
      go_meet
      case rel => exact ⟨c3, n3, s3, HS3.out, B6.out.put0 V6.out, E6.out.far B6.out.r0 (by omega)⟩
    case rest =>
    obtain ⟨c3, n3, s3, hs3, hbz, heb⟩ := hcut
    have HS3 := Lib.hid hs3
    have B3 := Lib.hid hbz
    have E3 := Lib.hid heb
    have DVN := Lib.hid (DVH.out wc hbz.p1.n heb.na)
    obtain ⟨d0, d1⟩ := hbz.p1.c
    obtain ⟨e0, e1⟩ := heb.ca
    have hks := heb.lt
    clear hs3 hbz heb SG0 B1 E1 DVH c0 c1
    go_upto_region 4 with fail
    go_cut [8, 9] from 20 (fun pp qq W => ∃ k8 k9 c8 n8, pp = .pointer (some ⟨k8, 0, none⟩) ∧ qq = .pointer (some ⟨k9, 0, none⟩) ∧ g < k8 ∧ Slot W k8 0 (.slice c8 n8 n8) ∧ NatV W (.slice c8 n8 n8) N ∧ BZ w W (.slice a1 n1 n1) (.slice a2 n2 n2) bx by' X Y (.slice c3 n3 n3) s3 G.natAbs (.slice none 0 0) false 0 (.slice none 0 0) false 0 ∧ EB W g (.slice q l l) (.slice p o o) (.slice r m m) (.slice d i i) mn G 0 s t)
    case first =>
      go_wp2_with fail
      refine DVN.out.mono ?_
      rintro e w6 ⟨v1, v2, rfl, hv1, hv2, hb6⟩
      have B6 := Lib.hid (B3.out.step hb6)
      have E6 := Lib.hid (E3.out.step hb6)
      have Z6 := Lib.hid hb6.size
      obtain ⟨c8, n8, rfl, x1, x2, x3, x4, x5⟩ := hv1.form
      clear x1 x2 x3 x4 x5
      obtain ⟨c9, n9, rfl, x1, x2, x3, x4, x5⟩ := hv2.form
      clear x1 x2 x3 x4 x5
      have V6 := Lib.hid hv1
      clear hv1 hv2 hb6
      go_wp2_with fail
      go_meet
      case rel => exact ⟨_, _, c8, n8, rfl, rfl, by have := Z6.out; omega, two_new, V6.out.below (below_more (below_more (Below.refl _ _))), B6.out.step (below_more (below_more (Below.refl _ _))), E6.out.step (below_more (below_more (Below.refl _ _)))⟩
    case rest =>
      obtain ⟨k8, k9, c8, n8, rfl, rfl, hk8, hsl, hnv, hbz, heb⟩ := hcut
      have BD := Lib.hid (hbz.step (below_drew _))
      have ED := Lib.hid (heb.step (below_drew _))
      have KD := Lib.hid (hsl.below (below_drew _) hsl.lt)
      have ND := Lib.hid (hnv.below (below_drew _))
      clear hbz heb hsl hnv DVN B3 E3 d0 d1 e0 e1 hks
      go_upto_region 5 with fail
      go_cut [] from 28 (fun W => ∃ c4 n4 s4, s4 = decide (X1 < 0) ∧ BZ w W (.slice a1 n1 n1) (.slice a2 n2 n2) bx by' X Y (.slice c3 n3 n3) s3 G.natAbs (.slice c4 n4 n4) s4 X1.natAbs (.slice none 0 0) false 0)
      case first =>
        refine region_till (S := fun (W : World) => W.cell? ⟨g, 2, none⟩ = some (.slice r m m) ∧ W.cell? ⟨g, 4, none⟩ = some (.bool mn) ∧ W.cell? ⟨w.heap.size, 1, none⟩ = some (.bool bx) ∧ W.cell? ⟨k8, 0, none⟩ = some (.slice c8 n8 n8)) (M := 10) (by kernel_rfl) ?_
        have hS0 : (fun (W : World) => W.cell? ⟨g, 2, none⟩ = some (.slice r m m) ∧ W.cell? ⟨g, 4, none⟩ = some (.bool mn) ∧ W.cell? ⟨w.heap.size, 1, none⟩ = some (.bool bx) ∧ W.cell? ⟨k8, 0, none⟩ = some (.slice c8 n8 n8)) _ := ⟨ED.out.cs.1, ED.out.cm.1, BD.out.p0.d.1, KD.out.1⟩
        refine till_any (i := 0) (v := ?_) rfl rfl (by kernel_rfl) (by kernel_rfl) (by kernel_rfl) (fun _ _ _ h => h) hS0 (Or.inl ⟨by rfl, ?_⟩) ?_
        rotate_left
        · ((intro W hW; (try dsimp only at hW); go_simp) <;> (with_reducible rfl))
        try simp only [Act.put, List.setIfInBounds_toArray, List.set_cons_zero, List.set_cons_succ, List.getElem_toArray, List.getElem_cons_zero]
        refine till_held (i := 1) (v := ?_) [1, 7, 10] rfl rfl (by kernel_rfl) (by kernel_rfl) (by kernel_rfl) (by kernel_rfl) (fun _ _ _ h => h) hS0 (Or.inl ⟨by rfl, ?_⟩) ?_
        rotate_left
        · ((intro W hW; (try dsimp only at hW); go_simp) <;> (with_reducible rfl))
        try simp only [Act.put, List.setIfInBounds_toArray, List.set_cons_zero, List.set_cons_succ, List.getElem_toArray, List.getElem_cons_succ, List.getElem_cons_zero]
        refine till_any (i := 2) (v := ?_) rfl rfl (by kernel_rfl) (by kernel_rfl) (by kernel_rfl) (fun _ _ _ h => h) hS0 (Or.inl ⟨by rfl, ?_⟩) ?_
        rotate_left
        · ((intro W hW; (try dsimp only at hW); go_simp) <;> (with_reducible rfl))
        try simp only [Act.put, List.setIfInBounds_toArray, List.set_cons_zero, List.set_cons_succ, List.getElem_toArray, List.getElem_cons_succ, List.getElem_cons_zero]
        refine till_held (i := 3) (v := ?_) [3, 6, 7, 10] rfl rfl (by kernel_rfl) (by kernel_rfl) (by kernel_rfl) (by kernel_rfl) (fun _ _ _ h => h) hS0 (Or.inl ⟨by rfl, ?_⟩) ?_
        rotate_left
        · ((intro W hW; (try dsimp only at hW); go_simp) <;> (with_reducible rfl))
        try simp only [Act.put, List.setIfInBounds_toArray, List.set_cons_zero, List.set_cons_succ, List.getElem_toArray, List.getElem_cons_succ, List.getElem_cons_zero]
        refine till_any (i := 4) (v := ?_) rfl rfl (by kernel_rfl) (by kernel_rfl) (by kernel_rfl) (fun _ _ _ h => h) hS0 (Or.inl ⟨by rfl, ?_⟩) ?_
        rotate_left
        · ((intro W hW; (try dsimp only at hW); go_simp) <;> (with_reducible rfl))
        try simp only [Act.put, List.setIfInBounds_toArray, List.set_cons_zero, List.set_cons_succ, List.getElem_toArray, List.getElem_cons_succ, List.getElem_cons_zero]
        refine till_held (i := 5) (v := ?_) [5, 6, 7, 10] rfl rfl (by kernel_rfl) (by kernel_rfl) (by kernel_rfl) (by kernel_rfl) (fun _ _ _ h => h) hS0 (Or.inl ⟨by rfl, ?_⟩) ?_
        rotate_left
        · ((intro W hW; (try dsimp only at hW); go_simp) <;> (with_reducible rfl))
        try simp only [Act.put, List.setIfInBounds_toArray, List.set_cons_zero, List.set_cons_succ, List.getElem_toArray, List.getElem_cons_succ, List.getElem_cons_zero]
        refine till_any (i := 6) (v := ?_) rfl rfl (by kernel_rfl) (by kernel_rfl) (by kernel_rfl) (fun _ _ _ h => h) hS0 (Or.inl ⟨by rfl, ?_⟩) ?_
        rotate_left
        · ((intro W hW; (try dsimp only at hW); go_simp) <;> (with_reducible rfl))
        try simp only [Act.put, List.setIfInBounds_toArray, List.set_cons_zero, List.set_cons_succ, List.getElem_toArray, List.getElem_cons_succ, List.getElem_cons_zero]
        refine till_held (i := 8) (v := ?_) [8, 9, 10] rfl rfl (by kernel_rfl) (by kernel_rfl) (by kernel_rfl) (by kernel_rfl) (fun _ _ _ h => h) hS0 (Or.inl ⟨by rfl, ?_⟩) ?_
        rotate_left
        · ((intro W hW; (try dsimp only at hW); go_simp) <;> (with_reducible rfl))
        try simp only [Act.put, List.setIfInBounds_toArray, List.set_cons_zero, List.set_cons_succ, List.getElem_toArray, List.getElem_cons_succ, List.getElem_cons_zero]
        refine till_one (i := 7) rfl (by kernel_rfl) (fun K hK => ?_)
        go_simp
        refine Calls.mono (SG1.out _ ED.out.ns) ?_
        rintro e w7 ⟨v7, rfl, hv7, hb7⟩
        have B7 := Lib.hid (BD.out.step hb7)
        have E7 := Lib.hid (ED.out.step hb7)
        have K7 := Lib.hid (KD.out.below hb7 KD.out.lt)
        have N7 := Lib.hid (ND.out.below hb7)
        obtain ⟨c7, n7, rfl, x1, x2, x3, x4, x5⟩ := hv7.form
        clear x1 x2 x3 x4 x5
        have V7 := Lib.hid hv7
        obtain ⟨s7, hs7⟩ : ∃ s7, s7 = decide (S0 < 0) := ⟨_, rfl⟩
        rw [← hs7]
        have HS7 := Lib.hid hs7
        clear hv7 hb7 hs7
        have hS1 : (fun (W : World) => W.cell? ⟨g, 2, none⟩ = some (.slice r m m) ∧ W.cell? ⟨g, 4, none⟩ = some (.bool mn) ∧ W.cell? ⟨w.heap.size, 1, none⟩ = some (.bool bx) ∧ W.cell? ⟨k8, 0, none⟩ = some (.slice c8 n8 n8)) w7 := ⟨E7.out.cs.1, E7.out.cm.1, B7.out.p0.d.1, K7.out.1⟩
        go_wp2_with fail
        refine hK.out _ _ ⟨fun _ => hS1, ?_⟩
        clear hK K
        try simp only [Act.put, List.setIfInBounds_toArray, List.set_cons_zero, List.set_cons_succ, List.getElem_toArray, List.getElem_cons_succ, List.getElem_cons_zero]
        refine till_one (i := 9) rfl (by kernel_rfl) (fun K hK => ?_)
        go_simp
        refine Calls.mono (SG2.out _ _ _ N7.out) ?_
        rintro e w9 ⟨v9, rfl, hv9, hb9⟩
        have B9 := Lib.hid (B7.out.step hb9)
        have E9 := Lib.hid (E7.out.step hb9)
        have K9 := Lib.hid (K7.out.below hb9 K7.out.lt)
        have V7b := Lib.hid (V7.out.below hb9)
        obtain ⟨c9, n9, rfl, x1, x2, x3, x4, x5⟩ := hv9.form
        clear x1 x2 x3 x4 x5
        have V9 := Lib.hid hv9
        obtain ⟨s9, hs9⟩ : ∃ s9, s9 = decide (N < 0) := ⟨_, rfl⟩
        rw [← hs9]
        have HS9 := Lib.hid hs9
        clear hv9 hb9 hs9
        have hS2 : (fun (W : World) => W.cell? ⟨g, 2, none⟩ = some (.slice r m m) ∧ W.cell? ⟨g, 4, none⟩ = some (.bool mn) ∧ W.cell? ⟨w.heap.size, 1, none⟩ = some (.bool bx) ∧ W.cell? ⟨k8, 0, none⟩ = some (.slice c8 n8 n8)) w9 := ⟨E9.out.cs.1, E9.out.cm.1, B9.out.p0.d.1, K9.out.1⟩
        go_wp2_with fail
        refine hK.out _ _ ⟨fun _ => hS2, ?_⟩
        clear hK K
        try simp only [Act.put, List.setIfInBounds_toArray, List.set_cons_zero, List.set_cons_succ, List.getElem_toArray, List.getElem_cons_succ, List.getElem_cons_zero]
        refine till_one (i := 10) rfl (by kernel_rfl) (fun K hK => ?_)
        go_simp
        refine Calls.mono (DM1.out _ _ _ _ _ HS7.out HS9.out V7b.out V9.out) ?_
        rintro e wA ⟨vq, vr, rfl, hq, hr, hbA⟩
        have BA := Lib.hid (B9.out.step hbA)
        have EA := Lib.hid (E9.out.step hbA)
        obtain ⟨cq, nq, rfl, x1, x2, x3, x4, x5⟩ := hq.form
        clear x1 x2 x3 x4 x5
        obtain ⟨cr, nr, rfl, x1, x2, x3, x4, x5⟩ := hr.form
        clear x1 x2 x3 x4 x5
        have VR := Lib.hid hr
        obtain ⟨sq, hsq⟩ : ∃ sq, sq = decide (S0.fdiv N < 0) := ⟨_, rfl⟩
        obtain ⟨sr, hsr⟩ : ∃ sr, sr = decide (X1 < 0) := ⟨_, rfl⟩
        rw [← hsq, ← hsr]
        have HSR := Lib.hid hsr
        obtain ⟨b1, b2⟩ := BA.out.r1.c
        obtain ⟨b3, b4⟩ := BA.out.r1.d
        clear hq hr hbA hsr
        go_wp2_with fail
        refine hK.out _ _ ⟨fun h => absurd h (by simp), ?_⟩
        clear hK K
        try simp only [Act.put, List.setIfInBounds_toArray, List.set_cons_zero, List.set_cons_succ, List.getElem_toArray, List.getElem_cons_succ, List.getElem_cons_zero]
        refine till_after (i := 11) (v := ?_) rfl rfl (by kernel_rfl) (by kernel_rfl) (by kernel_rfl) (fun _ _ _ h => h) (by kernel_rfl) (Or.inl ⟨by rfl, ?_⟩) ?_
        rotate_left
        · ((intro W hW; (try dsimp only at hW); go_simp) <;> (with_reducible rfl))
        try simp only [Act.put, List.setIfInBounds_toArray, List.set_cons_zero, List.set_cons_succ, List.getElem_toArray, List.getElem_cons_succ, List.getElem_cons_zero]
        refine till_after (i := 12) (v := ?_) rfl rfl (by kernel_rfl) (by kernel_rfl) (by kernel_rfl) (fun _ _ _ h => h) (by kernel_rfl) (Or.inl ⟨by rfl, ?_⟩) ?_
        rotate_left
        · ((intro W hW; (try dsimp only at hW); go_simp) <;> (with_reducible rfl))
        try simp only [Act.put, List.setIfInBounds_toArray, List.set_cons_zero, List.set_cons_succ, List.getElem_toArray, List.getElem_cons_succ, List.getElem_cons_zero]
        refine till_after (i := 13) (v := ?_) rfl rfl (by kernel_rfl) (by kernel_rfl) (by kernel_rfl) (fun _ _ _ h => h) (by kernel_rfl) (Or.inl ⟨by rfl, ?_⟩) ?_
        rotate_left
        · ((intro W hW; (try dsimp only at hW); go_simp) <;> (with_reducible rfl))
        try simp only [Act.put, List.setIfInBounds_toArray, List.set_cons_zero, List.set_cons_succ, List.getElem_toArray, List.getElem_cons_succ, List.getElem_cons_zero]
        refine till_one (i := 14) rfl (by kernel_rfl) (fun K hK => ?_)
        go_simp
        refine hK.out _ _ ⟨fun h => absurd h (by simp), ?_⟩
        clear hK K
        try simp only [Act.put, List.setIfInBounds_toArray, List.set_cons_zero, List.set_cons_succ, List.getElem_toArray, List.getElem_cons_succ, List.getElem_cons_zero]
        refine till_done (by kernel_rfl) ?_
        go_wp2_with fail
        go_meet
        case rel => exact ⟨cr, nr, sr, HSR.out, BA.out.put1 VR.out⟩
      case rest =>
        obtain ⟨c4, n4, s4, hs4, hbz⟩ := hcut
        have HS4 := Lib.hid hs4
        have CD := Lib.hid (hbz.step (below_drew _))
        clear hs4 hbz BD ED KD ND SG1 SG2 DM1 hk8
        go_upto_region 6 with fail
        go_cut [] from 42 (fun W => ∃ c5 n5 s5, s5 = decide ((G - x * X1).fdiv y < 0) ∧ BZ w W (.slice a1 n1 n1) (.slice a2 n2 n2) bx by' X Y (.slice c3 n3 n3) s3 G.natAbs (.slice c4 n4 n4) s4 X1.natAbs (.slice c5 n5 n5) s5 ((G - x * X1).fdiv y).natAbs)
        case first =>
          refine region_till (S := fun (W : World) => W.cell? ⟨w.heap.size, 0, none⟩ = some (.slice a1 n1 n1) ∧ W.cell? ⟨w.heap.size, 1, none⟩ = some (.bool bx) ∧ W.cell? ⟨w.heap.size + 1, 0, none⟩ = some (.slice a2 n2 n2) ∧ W.cell? ⟨w.heap.size + 1, 1, none⟩ = some (.bool by') ∧ W.cell? ⟨w.heap.size + 1 + 1, 0, none⟩ = some (.slice c3 n3 n3) ∧ W.cell? ⟨w.heap.size + 1 + 1, 1, none⟩ = some (.bool s3) ∧ W.cell? ⟨w.heap.size + 1 + 1 + 1, 0, none⟩ = some (.slice c4 n4 n4) ∧ W.cell? ⟨w.heap.size + 1 + 1 + 1, 1, none⟩ = some (.bool s4)) (M := 6) (by kernel_rfl) ?_
          have hS0 : (fun (W : World) => W.cell? ⟨w.heap.size, 0, none⟩ = some (.slice a1 n1 n1) ∧ W.cell? ⟨w.heap.size, 1, none⟩ = some (.bool bx) ∧ W.cell? ⟨w.heap.size + 1, 0, none⟩ = some (.slice a2 n2 n2) ∧ W.cell? ⟨w.heap.size + 1, 1, none⟩ = some (.bool by') ∧ W.cell? ⟨w.heap.size + 1 + 1, 0, none⟩ = some (.slice c3 n3 n3) ∧ W.cell? ⟨w.heap.size + 1 + 1, 1, none⟩ = some (.bool s3) ∧ W.cell? ⟨w.heap.size + 1 + 1 + 1, 0, none⟩ = some (.slice c4 n4 n4) ∧ W.cell? ⟨w.heap.size + 1 + 1 + 1, 1, none⟩ = some (.bool s4)) _ := ⟨CD.out.p0.c.1, CD.out.p0.d.1, CD.out.p1.c.1, CD.out.p1.d.1, CD.out.r0.c.1, CD.out.r0.d.1, CD.out.r1.c.1, CD.out.r1.d.1⟩
          refine till_held (i := 0) (v := ?_) [0, 4, 6] rfl rfl (by kernel_rfl) (by kernel_rfl) (by kernel_rfl) (by kernel_rfl) (fun _ _ _ h => h) hS0 (Or.inl ⟨by rfl, ?_⟩) ?_
          rotate_left
          · ((intro W hW; (try dsimp only at hW); go_simp) <;> (with_reducible rfl))
          try simp only [Act.put, List.setIfInBounds_toArray, List.set_cons_zero, List.set_cons_succ, List.getElem_toArray, List.getElem_cons_zero]
          refine till_held (i := 1) (v := ?_) [1, 3, 4, 6] rfl rfl (by kernel_rfl) (by kernel_rfl) (by kernel_rfl) (by kernel_rfl) (fun _ _ _ h => h) hS0 (Or.inl ⟨by rfl, ?_⟩) ?_
          rotate_left
          · ((intro W hW; (try dsimp only at hW); go_simp) <;> (with_reducible rfl))
          try simp only [Act.put, List.setIfInBounds_toArray, List.set_cons_zero, List.set_cons_succ, List.getElem_toArray, List.getElem_cons_succ, List.getElem_cons_zero]
          refine till_held (i := 2) (v := ?_) [2, 3, 4, 6] rfl rfl (by kernel_rfl) (by kernel_rfl) (by kernel_rfl) (by kernel_rfl) (fun _ _ _ h => h) hS0 (Or.inl ⟨by rfl, ?_⟩) ?_
          rotate_left
          · ((intro W hW; (try dsimp only at hW); go_simp) <;> (with_reducible rfl))
          try simp only [Act.put, List.setIfInBounds_toArray, List.set_cons_zero, List.set_cons_succ, List.getElem_toArray, List.getElem_cons_succ, List.getElem_cons_zero]
          refine till_held (i := 5) (v := ?_) [5, 6] rfl rfl (by kernel_rfl) (by kernel_rfl) (by kernel_rfl) (by kernel_rfl) (fun _ _ _ h => h) hS0 (Or.inl ⟨by rfl, ?_⟩) ?_
          rotate_left
          · ((intro W hW; (try dsimp only at hW); go_simp) <;> (with_reducible rfl))
          try simp only [Act.put, List.setIfInBounds_toArray, List.set_cons_zero, List.set_cons_succ, List.getElem_toArray, List.getElem_cons_succ, List.getElem_cons_zero]
          refine till_one (i := 3) rfl (by kernel_rfl) (fun K hK => ?_)
          go_simp
          refine Calls.mono (TM.out _ _ _ HS4.out CD.out.p0.n CD.out.r1.n) ?_
          rintro e w7 ⟨v7, rfl, hv7, hb7⟩
          have B7 := Lib.hid (CD.out.step hb7)
          obtain ⟨c7, n7, rfl, x1, x2, x3, x4, x5⟩ := hv7.form
          clear x1 x2 x3 x4 x5
          have V7 := Lib.hid hv7
          obtain ⟨s7, hs7⟩ : ∃ s7, s7 = decide (x * X1 < 0) := ⟨_, rfl⟩
          rw [← hs7]
          have HS7 := Lib.hid hs7
          clear hv7 hb7 hs7
          have hS1 : (fun (W : World) => W.cell? ⟨w.heap.size, 0, none⟩ = some (.slice a1 n1 n1) ∧ W.cell? ⟨w.heap.size, 1, none⟩ = some (.bool bx) ∧ W.cell? ⟨w.heap.size + 1, 0, none⟩ = some (.slice a2 n2 n2) ∧ W.cell? ⟨w.heap.size + 1, 1, none⟩ = some (.bool by') ∧ W.cell? ⟨w.heap.size + 1 + 1, 0, none⟩ = some (.slice c3 n3 n3) ∧ W.cell? ⟨w.heap.size + 1 + 1, 1, none⟩ = some (.bool s3) ∧ W.cell? ⟨w.heap.size + 1 + 1 + 1, 0, none⟩ = some (.slice c4 n4 n4) ∧ W.cell? ⟨w.heap.size + 1 + 1 + 1, 1, none⟩ = some (.bool s4)) w7 := ⟨B7.out.p0.c.1, B7.out.p0.d.1, B7.out.p1.c.1, B7.out.p1.d.1, B7.out.r0.c.1, B7.out.r0.d.1, B7.out.r1.c.1, B7.out.r1.d.1⟩
          go_wp2_with fail
          refine hK.out _ _ ⟨fun _ => hS1, ?_⟩
          clear hK K
          try simp only [Act.put, List.setIfInBounds_toArray, List.set_cons_zero, List.set_cons_succ, List.getElem_toArray, List.getElem_cons_succ, List.getElem_cons_zero]
          refine till_one (i := 4) rfl (by kernel_rfl) (fun K hK => ?_)
          go_simp
          refine Calls.mono (LS.out _ _ _ _ _ HS3.out HS7.out B7.out.r0.n V7.out) ?_
          rintro e w9 ⟨v9, rfl, hv9, hb9⟩
          have B9 := Lib.hid (B7.out.step hb9)
          obtain ⟨c9, n9, rfl, x1, x2, x3, x4, x5⟩ := hv9.form
          clear x1 x2 x3 x4 x5
          have V9 := Lib.hid hv9
          obtain ⟨s9, hs9⟩ : ∃ s9, s9 = decide (G - x * X1 < 0) := ⟨_, rfl⟩
          rw [← hs9]
          have HS9 := Lib.hid hs9
          clear hv9 hb9 hs9
          have hS2 : (fun (W : World) => W.cell? ⟨w.heap.size, 0, none⟩ = some (.slice a1 n1 n1) ∧ W.cell? ⟨w.heap.size, 1, none⟩ = some (.bool bx) ∧ W.cell? ⟨w.heap.size + 1, 0, none⟩ = some (.slice a2 n2 n2) ∧ W.cell? ⟨w.heap.size + 1, 1, none⟩ = some (.bool by') ∧ W.cell? ⟨w.heap.size + 1 + 1, 0, none⟩ = some (.slice c3 n3 n3) ∧ W.cell? ⟨w.heap.size + 1 + 1, 1, none⟩ = some (.bool s3) ∧ W.cell? ⟨w.heap.size + 1 + 1 + 1, 0, none⟩ = some (.slice c4 n4 n4) ∧ W.cell? ⟨w.heap.size + 1 + 1 + 1, 1, none⟩ = some (.bool s4)) w9 := ⟨B9.out.p0.c.1, B9.out.p0.d.1, B9.out.p1.c.1, B9.out.p1.d.1, B9.out.r0.c.1, B9.out.r0.d.1, B9.out.r1.c.1, B9.out.r1.d.1⟩
          go_wp2_with fail
          refine hK.out _ _ ⟨fun _ => hS2, ?_⟩
          clear hK K
          try simp only [Act.put, List.setIfInBounds_toArray, List.set_cons_zero, List.set_cons_succ, List.getElem_toArray, List.getElem_cons_succ, List.getElem_cons_zero]
          refine till_one (i := 6) rfl (by kernel_rfl) (fun K hK => ?_)
          go_simp
          refine Calls.mono (DM2.out _ _ _ HS9.out V9.out B9.out.p1.n) ?_
          rintro e wA ⟨vq, vr, rfl, hq, hr, hbA⟩
          have BA := Lib.hid (B9.out.step hbA)
          obtain ⟨cq, nq, rfl, x1, x2, x3, x4, x5⟩ := hq.form
          clear x1 x2 x3 x4 x5
          obtain ⟨cr, nr, rfl, x1, x2, x3, x4, x5⟩ := hr.form
          clear x1 x2 x3 x4 x5
          have VQ := Lib.hid hq
          obtain ⟨sq, hsq⟩ : ∃ sq, sq = decide ((G - x * X1).fdiv y < 0) := ⟨_, rfl⟩
          obtain ⟨sr, hsr⟩ : ∃ sr, sr = decide ((G - x * X1).fmod y < 0) := ⟨_, rfl⟩
          rw [← hsq, ← hsr]
          have HSQ := Lib.hid hsq
          obtain ⟨b1, b2⟩ := BA.out.r2.c
          obtain ⟨b3, b4⟩ := BA.out.r2.d
          clear hq hr hbA hsq
          go_wp2_with fail
          refine hK.out _ _ ⟨fun h => absurd h (by simp), ?_⟩
          clear hK K
          try simp only [Act.put, List.setIfInBounds_toArray, List.set_cons_zero, List.set_cons_succ, List.getElem_toArray, List.getElem_cons_succ, List.getElem_cons_zero]
          refine till_after (i := 7) (v := ?_) rfl rfl (by kernel_rfl) (by kernel_rfl) (by kernel_rfl) (fun _ _ _ h => h) (by kernel_rfl) (Or.inl ⟨by rfl, ?_⟩) ?_
          rotate_left
          · ((intro W hW; (try dsimp only at hW); go_simp) <;> (with_reducible rfl))
          try simp only [Act.put, List.setIfInBounds_toArray, List.set_cons_zero, List.set_cons_succ, List.getElem_toArray, List.getElem_cons_succ, List.getElem_cons_zero]
          refine till_after (i := 8) (v := ?_) rfl rfl (by kernel_rfl) (by kernel_rfl) (by kernel_rfl) (fun _ _ _ h => h) (by kernel_rfl) (Or.inl ⟨by rfl, ?_⟩) ?_
          rotate_left
          · ((intro W hW; (try dsimp only at hW); go_simp) <;> (with_reducible rfl))
          try simp only [Act.put, List.setIfInBounds_toArray, List.set_cons_zero, List.set_cons_succ, List.getElem_toArray, List.getElem_cons_succ, List.getElem_cons_zero]
          refine till_after (i := 9) (v := ?_) rfl rfl (by kernel_rfl) (by kernel_rfl) (by kernel_rfl) (fun _ _ _ h => h) (by kernel_rfl) (Or.inl ⟨by rfl, ?_⟩) ?_
          rotate_left
          · ((intro W hW; (try dsimp only at hW); go_simp) <;> (with_reducible rfl))
          try simp only [Act.put, List.setIfInBounds_toArray, List.set_cons_zero, List.set_cons_succ, List.getElem_toArray, List.getElem_cons_succ, List.getElem_cons_zero]
          refine till_one (i := 10) rfl (by kernel_rfl) (fun K hK => ?_)
          go_simp
          refine hK.out _ _ ⟨fun h => absurd h (by simp), ?_⟩
          clear hK K
          try simp only [Act.put, List.setIfInBounds_toArray, List.set_cons_zero, List.set_cons_succ, List.getElem_toArray, List.getElem_cons_succ, List.getElem_cons_zero]
          refine till_done (by kernel_rfl) ?_
          go_wp2_with fail
          go_meet
          case rel => exact ⟨cq, nq, sq, HSQ.out, BA.out.put2 VQ.out⟩
        case rest =>
          obtain ⟨c5, n5, s5, hs5, hbz⟩ := hcut
          have HS5 := Lib.hid hs5
          have D0 := Lib.hid hbz
          obtain ⟨b0, b1⟩ := hbz.r0.c
          obtain ⟨b2, b3⟩ := hbz.r0.d
          obtain ⟨b4, b5⟩ := hbz.r1.c
          obtain ⟨b6, b7⟩ := hbz.r1.d
          obtain ⟨b8, b9⟩ := hbz.r2.c
          obtain ⟨b10, b11⟩ := hbz.r2.d
          clear hs5 hbz CD TM LS DM2
          go_wp2_with fail
          go_region
          all_goals go_wp2
          all_goals
            have D1 := (((D0.out.put0 (Ab' := s3) D0.out.r0.n).put1 (Ab' := s4) ((D0.out.put0 (Ab' := s3) D0.out.r0.n).r1.n)).put2 (Ab' := s5) (((D0.out.put0 (Ab' := s3) D0.out.r0.n).put1 (Ab' := s4) ((D0.out.put0 (Ab' := s3) D0.out.r0.n).r1.n)).r2.n)).step (below_drew _)
            first | exact bodyPost_ret (v := .tuple #[.agg #[.slice c3 n3 n3, .bool s3], .agg #[.slice c4 n4 n4, .bool s4], .agg #[.slice c5 n5 n5, .bool s5]]) (by simp [results, Tryz.results98, go_sem, b0, b2, b4, b6, b8, b10]) rfl ⟨X1, _, BZE.out, _, _, _, by rw [HS3.out, HS4.out, HS5.out], D1.r0.n, D1.r1.n, D1.r2.n, D1.below⟩
end Go.Proofs.YtphbfjcaehiboaaGreatDoor
namespace Go.Proofs.YtphbfjcaehiboaaGreatDoor
open Go.RowKit

def GivesQ4 (g s t : ByteArray) (n : Int) (w : World) (e : Ending) (w' : World) : Prop := e = .returned (.tuple #[.string g, .string s, .string t, .int .i64 n]) ∧ Below w.heap.size w w'
theorem dn_max {x y z : Int} (h : z.natAbs ≤ max x.natAbs y.natAbs) (hx : dn x ≤ 1000) (hy : dn y ≤ 1000) : dn z ≤ 1000 := by
  rcases Nat.le_total x.natAbs y.natAbs with k | k
  · exact Nat.le_trans (dn_abs_le (x := z) (y := y) (by omega)) hy
  · exact Nat.le_trans (dn_abs_le (x := z) (y := x) (by omega)) hx
theorem Bez.dx {A B x y : Int} (h : Bez A B x y) (hB : dn B ≤ 1000) : dn x ≤ 1000 := by
  obtain ⟨h1, h2, h3⟩ := h
  refine Nat.le_trans (dn_abs_le (x := x) (y := B) ?_) hB
  have h4 := per_mul (A := A) (B := B)
  rcases Decidable.em (B = 0) with e | e
  · subst e
    unfold per at h2
    simp at h2
    omega
  · have h5 := gcd_pos (A := A) e
    have h6 : per A B * 1 ≤ per A B * Int.gcd A B := Int.mul_le_mul_of_nonneg_left (by omega) (Int.le_of_lt (per_pos e))
    omega
theorem Bez.dy {A B x y : Int} (h : Bez A B x y) (hB : B ≠ 0) (hA : dn A ≤ 1000) : dn y ≤ 1000 :=
  dn_max (x := A) (y := 1) (bez_y hB h.1 h.2.1 h.2.2) hA (by rw [← dn_abs, dn_ten (by omega)]; exact Nat.le_trans (Ten.nl_small (by decide)) (by omega))
theorem Bezout_bad1 (s : ByteArray) (y : Int) (w : World) (hs : s.size ≤ 9223372036854775807) (h1 : isT s.data.toList = false) (hy : dn y ≤ 1000) :
    Calls Tryz.prog 64 #[.string s, .string (tx y)] w (GivesQ4 ⟨#[]⟩ ⟨#[]⟩ ⟨#[]⟩ 1 w) := by
  have HP1 := Lib.hid (parse_no s w hs h1)
  have HP2 := Lib.hid (fun W => parse_tx y W hy)
  clear h1
  obtain ⟨by', hby⟩ : ∃ by', by' = decide (y < 0) := ⟨_, rfl⟩
  obtain ⟨Y, hY⟩ : ∃ Y, Y = tx y := ⟨_, rfl⟩
  rw [← hY] at HP2 ⊢
  have HBY := Lib.hid hby
  clear hby hY
  go_enter Tryz.func64, Tryz.ntmps64
  go_wp2_with fail
  refine HP1.out.mono ?_
  rintro e w1 ⟨rfl, hb1⟩
  have B2 := Lib.hid (hb1.alloc hb1.size (.cells #[.slice none 0 0, .bool false] 66))
  clear hb1
  go_wp2_with fail
  generalize w1.alloc (.cells #[.slice none 0 0, .bool false] 66) = W2 at *
  refine (HP2.out W2).mono ?_
  rintro e w3 ⟨v3, rfl, hv3, hb3⟩
  rw [← HBY.out]
  obtain ⟨c, m, rfl, hm, _, _, _, _⟩ := hv3.form
  have HM := Lib.hid hm
  have B4 := Lib.hid (B2.out.trans ((hb3.alloc hb3.size (.cells #[.slice c m m, .bool by'] 66)).mono B2.out.size))
  clear hv3 hb3 hm
  go_wp2
  exact bodyPost_ret (v := .tuple #[.string ⟨#[]⟩, .string ⟨#[]⟩, .string ⟨#[]⟩, .int .i64 1]) (by simp [results, Tryz.results64, go_sem]) rfl ⟨rfl, B4.out⟩
theorem Bezout_bad2 (x : Int) (t : ByteArray) (w : World) (hx : dn x ≤ 1000) (ht : t.size ≤ 9223372036854775807) (h2 : isT t.data.toList = false) :
    Calls Tryz.prog 64 #[.string (tx x), .string t] w (GivesQ4 ⟨#[]⟩ ⟨#[]⟩ ⟨#[]⟩ 1 w) := by
  have HP1 := Lib.hid (parse_tx x w hx)
  have HP2 := Lib.hid (fun W => parse_no t W ht h2)
  obtain ⟨bx, hbx⟩ : ∃ bx, bx = decide (x < 0) := ⟨_, rfl⟩
  obtain ⟨X, hX⟩ : ∃ X, X = tx x := ⟨_, rfl⟩
  rw [← hX] at HP1 ⊢
  have HBX := Lib.hid hbx
  clear hbx hX
  clear h2
  go_enter Tryz.func64, Tryz.ntmps64
  go_wp2_with fail
  refine HP1.out.mono ?_
  rintro e w1 ⟨v1, rfl, hv1, hb1⟩
  rw [← HBX.out]
  obtain ⟨a, n, rfl, hn, _, _, _, _⟩ := hv1.form
  have HN := Lib.hid hn
  have B2 := Lib.hid (hb1.alloc hb1.size (.cells #[.slice a n n, .bool bx] 66))
  clear hv1 hb1 hn
  go_wp2_with fail
  generalize w1.alloc (.cells #[.slice a n n, .bool bx] 66) = W2 at *
  refine (HP2.out W2).mono ?_
  rintro e w3 ⟨rfl, hb3⟩
  have B4 := Lib.hid (B2.out.trans ((hb3.alloc hb3.size (.cells #[.slice none 0 0, .bool false] 66)).mono B2.out.size))
  clear hb3
  go_wp2
  exact bodyPost_ret (v := .tuple #[.string ⟨#[]⟩, .string ⟨#[]⟩, .string ⟨#[]⟩, .int .i64 1]) (by simp [results, Tryz.results64, go_sem]) rfl ⟨rfl, B4.out⟩
theorem Bezout_bad3 (s : ByteArray) (t : ByteArray) (w : World) (hs : s.size ≤ 9223372036854775807) (h1 : isT s.data.toList = false) (ht : t.size ≤ 9223372036854775807) (h2 : isT t.data.toList = false) :
    Calls Tryz.prog 64 #[.string s, .string t] w (GivesQ4 ⟨#[]⟩ ⟨#[]⟩ ⟨#[]⟩ 1 w) := by
  have HP1 := Lib.hid (parse_no s w hs h1)
  have HP2 := Lib.hid (fun W => parse_no t W ht h2)
  clear h1
  clear h2
  go_enter Tryz.func64, Tryz.ntmps64
  go_wp2_with fail
  refine HP1.out.mono ?_
  rintro e w1 ⟨rfl, hb1⟩
  have B2 := Lib.hid (hb1.alloc hb1.size (.cells #[.slice none 0 0, .bool false] 66))
  clear hb1
  go_wp2_with fail
  generalize w1.alloc (.cells #[.slice none 0 0, .bool false] 66) = W2 at *
  refine (HP2.out W2).mono ?_
  rintro e w3 ⟨rfl, hb3⟩
  have B4 := Lib.hid (B2.out.trans ((hb3.alloc hb3.size (.cells #[.slice none 0 0, .bool false] 66)).mono B2.out.size))
  clear hb3
  go_wp2
  exact bodyPost_ret (v := .tuple #[.string ⟨#[]⟩, .string ⟨#[]⟩, .string ⟨#[]⟩, .int .i64 1]) (by simp [results, Tryz.results64, go_sem]) rfl ⟨rfl, B4.out⟩
theorem Bezout_bad (s t : ByteArray) (w : World) (hs : s.size ≤ 9223372036854775807) (ht : t.size ≤ 9223372036854775807) (h : isT s.data.toList = false ∨ isT t.data.toList = false) :
    Calls Tryz.prog 64 #[.string s, .string t] w (GivesQ4 ⟨#[]⟩ ⟨#[]⟩ ⟨#[]⟩ 1 w) := by
  rcases tx_or s with ⟨x, rfl, hx⟩ | h1
  · refine Bezout_bad2 x t w hx ht ?_
    rcases h with h | h
    · rw [isT_tx hx] at h; cases h
    · exact h
  · rcases tx_or t with ⟨y, rfl, hy⟩ | h2
    · exact Bezout_bad1 s y w hs h1 hy
    · exact Bezout_bad3 s t w hs h1 ht h2
theorem Bezout_zero (x y : Int) (w : World) (tb : Tb w) (hx : dn x ≤ 1000) (hy : dn y ≤ 1000) (h0 : y = 0) :
    Calls Tryz.prog 64 #[.string (tx x), .string (tx y)] w (GivesQ4 (tx x.natAbs) (tx (sg x)) ⟨#[48]⟩ 0 w) := by
  have HP1 := Lib.hid (parse_tx x w hx)
  have HP2 := Lib.hid (fun W => parse_tx y W hy)
  have ZD : Hid (decide ((y.natAbs : Int) = 0) = true) := decide_eq_true (by omega)
  clear h0
  have hsg : -1 ≤ sg x ∧ sg x ≤ 1 := by unfold sg; split <;> (try split) <;> omega
  have AB := Lib.hid (fun W => Abs_tx x W hx)
  have SG := Lib.hid (fun W => Sign_tx x W hx)
  have OF := Lib.hid (fun W (h : Below w.heap.size w W) => of_any (sg x) W (tb.below h) (by omega) (by omega))
  obtain ⟨AX, hAX⟩ : ∃ AX, AX = tx x.natAbs := ⟨_, rfl⟩
  obtain ⟨SX, hSX⟩ : ∃ SX, SX = tx (sg x) := ⟨_, rfl⟩
  obtain ⟨sx, hsx⟩ : ∃ sx, sx = sg x := ⟨_, rfl⟩
  rw [← hAX] at AB ⊢
  rw [← hSX] at OF ⊢
  rw [← hsx] at SG OF
  clear hAX hSX hsx hsg tb
  obtain ⟨bx, hbx⟩ : ∃ bx, bx = decide (x < 0) := ⟨_, rfl⟩
  obtain ⟨by', hby⟩ : ∃ by', by' = decide (y < 0) := ⟨_, rfl⟩
  obtain ⟨X, hX⟩ : ∃ X, X = tx x := ⟨_, rfl⟩
  obtain ⟨Y, hY⟩ : ∃ Y, Y = tx y := ⟨_, rfl⟩
  rw [← hX] at HP1 AB SG ⊢
  rw [← hY] at HP2 ⊢
  have HBX := Lib.hid hbx
  have HBY := Lib.hid hby
  clear hbx hby hX hY
  go_enter Tryz.func64, Tryz.ntmps64
  go_wp2_with fail
  refine HP1.out.mono ?_
  rintro e w1 ⟨v1, rfl, hv1, hb1⟩
  rw [← HBX.out]
  obtain ⟨a, n, rfl, hn, _, _, _, _⟩ := hv1.form
  have HN := Lib.hid hn
  have B2 := Lib.hid (hb1.alloc hb1.size (.cells #[.slice a n n, .bool bx] 66))
  have C2 := Lib.hid (cell2_new w1 (.slice a n n) (.bool bx) 66)
  have N2 := Lib.hid (hv1.below (alloc_below' w1 (.cells #[.slice a n n, .bool bx] 66)))
  have hz2 : (w1.alloc (.cells #[.slice a n n, .bool bx] 66)).heap.size = w1.heap.size + 1 := by simp
  have Z2 := Lib.hid hz2
  obtain ⟨K1, hK1⟩ : ∃ K1, K1 = w1.heap.size := ⟨_, rfl⟩
  rw [← hK1] at C2 Z2
  clear hv1 hb1 hn hz2
  have HK1 := Lib.hid hK1
  clear hK1
  go_wp2_with fail
  rw [← HK1.out]
  generalize w1.alloc (.cells #[.slice a n n, .bool bx] 66) = W2 at *
  refine (HP2.out W2).mono ?_
  rintro e w3 ⟨v3, rfl, hv3, hb3⟩
  rw [← HBY.out]
  obtain ⟨c, m, rfl, hm, _, _, _, _⟩ := hv3.form
  have HM := Lib.hid hm
  have hb4 := hb3.alloc hb3.size (.cells #[.slice c m m, .bool by'] 66)
  have B4 := Lib.hid (B2.out.trans (hb4.mono B2.out.size))
  have C4 := Lib.hid (cell2_new w3 (.slice c m m) (.bool by') 66)
  have N4 := Lib.hid (hv3.below (alloc_below' w3 (.cells #[.slice c m m, .bool by'] 66)))
  have M4 := Lib.hid (N2.out.below hb4)
  have hz4 : (w3.alloc (.cells #[.slice c m m, .bool by'] 66)).heap.size = w3.heap.size + 1 := by simp
  have Z4 := Lib.hid hz4
  have D4 := Lib.hid (show K1 < w3.heap.size by have := hb3.size; rw [Z2.out] at this; omega)
  have c0 := (below_at hb4 0 (show K1 < W2.heap.size by rw [Z2.out]; omega)).trans C2.out.1
  have c1 := (below_at hb4 1 (show K1 < W2.heap.size by rw [Z2.out]; omega)).trans C2.out.2
  have c2 := C4.out.1
  have c3 := C4.out.2
  obtain ⟨K3, hK3⟩ : ∃ K3, K3 = w3.heap.size := ⟨_, rfl⟩
  rw [← hK3] at c2 c3 Z4 D4
  have HK3 := Lib.hid hK3
  clear hv3 hb3 hm hb4 C2 C4 hK3 hz4
  go_wp2_with fail
  rw [← HK3.out]
  generalize w3.alloc (.cells #[.slice c m m, .bool by'] 66) = W4 at *
  refine (isZero_any _ _ W4 N4.out).mono ?_
  rintro e w5 ⟨rfl, rfl⟩
  rw [ZD.out]
  have hb5 := alloc_below' W4 (.cells #[.slice c m m] 64)
  have B5 := Lib.hid (B4.out.trans (hb5.mono B4.out.size))
  have N5 := Lib.hid (N4.out.below hb5)
  have M5 := Lib.hid (M4.out.below hb5)
  have d0 := (below_at hb5 0 (show K1 < W4.heap.size by rw [Z4.out]; have := D4.out; omega)).trans c0
  have d1 := (below_at hb5 1 (show K1 < W4.heap.size by rw [Z4.out]; have := D4.out; omega)).trans c1
  have d2 := (below_at hb5 0 (show K3 < W4.heap.size by rw [Z4.out]; omega)).trans c2
  have d3 := (below_at hb5 1 (show K3 < W4.heap.size by rw [Z4.out]; omega)).trans c3
  clear hb5 c0 c1 c2 c3
  generalize W4.alloc (.cells #[.slice c m m] 64) = W5 at *
  go_wp2_with fail
  refine (AB.out W5).mono ?_
  rintro e w6 ⟨rfl, rfl⟩
  go_wp2_with fail
  refine (SG.out _).mono ?_
  rintro e w6 ⟨rfl, rfl⟩
  go_wp2_with fail
  refine (OF.out _ B5.out).mono ?_
  rintro e w6 ⟨rfl, hb6⟩
  have B6 := Lib.hid (B5.out.trans (hb6.mono B5.out.size))
  clear hb6
  go_wp2
  exact bodyPost_ret (v := .tuple #[.string AX, .string SX, .string ⟨#[48]⟩, .int .i64 0]) (by simp [results, Tryz.results64, go_sem]) rfl ⟨rfl, B6.out⟩
theorem Bezout_tx (x y : Int) (w : World) (hx : dn x ≤ 1000) (hy : dn y ≤ 1000) (h0 : y ≠ 0) :
    Calls Tryz.prog 64 #[.string (tx x), .string (tx y)] w (fun e w' => ∃ x' y', Bez x y x' y' ∧ GivesQ4 (tx (Int.gcd x y : Int)) (tx x') (tx y') 0 w e w') := by
  have HP1 := Lib.hid (parse_tx x w hx)
  have HP2 := Lib.hid (fun W => parse_tx y W hy)
  have ZD : Hid (decide ((y.natAbs : Int) = 0) = false) := decide_eq_false (by omega)
  have hgd : dn (Int.gcd x y : Int) ≤ 1000 := dn_max (x := x) (y := y) (by have := gcd_le x y; omega) hx hy
  have htx : ∀ z W v s, dn z ≤ 1000 → s = decide (z < 0) → NatV W v z.natAbs → Calls Tryz.prog 60 #[.agg #[v, .bool s]] W fun e w' => e = .returned (.tuple #[.string (tx z), .int .i64 0]) ∧ Below W.heap.size W w' := fun z W v s h1 e h => by
    subst e
    have := text_any v z W h
    unfold GivesX at this
    rwa [if_pos h1, if_pos h1] at this
  have hnx := nl_112 (x := (x.natAbs : Int)) (by omega) (by rw [dn_abs]; exact hx)
  have hny := nl_112 (x := (y.natAbs : Int)) (by omega) (by rw [dn_abs]; exact hy)
  have dm := fun (u v : Value) (W : World) (hu : NatV W u x.natAbs) (hv : NatV W v y.natAbs) => bezout_num u v x y W hu hv h0 (by omega) (by omega)
  have HZ := Lib.hid (fun x' y' (h : Bez x y x' y') => (show dn x' ≤ 1000 ∧ dn y' ≤ 1000 from ⟨h.dx hy, h.dy h0 hx⟩))
  obtain ⟨G, hGe⟩ : ∃ G : Int, G = (Int.gcd x y : Int) := ⟨_, rfl⟩
  rw [← hGe] at hgd dm ⊢
  have TX := Lib.hid htx
  have HGD := Lib.hid hgd
  clear htx h0 hgd hGe hnx hny
  obtain ⟨bx, hbx⟩ : ∃ bx, bx = decide (x < 0) := ⟨_, rfl⟩
  obtain ⟨by', hby⟩ : ∃ by', by' = decide (y < 0) := ⟨_, rfl⟩
  obtain ⟨X, hX⟩ : ∃ X, X = tx x := ⟨_, rfl⟩
  obtain ⟨Y, hY⟩ : ∃ Y, Y = tx y := ⟨_, rfl⟩
  rw [← hX] at HP1 ⊢
  rw [← hY] at HP2 ⊢
  have HBX := Lib.hid hbx
  have HBY := Lib.hid hby
  rw [← hbx, ← hby] at dm
  have DM := Lib.hid dm
  clear dm
  clear hbx hby hX hY
  go_enter Tryz.func64, Tryz.ntmps64
  go_wp2_with fail
  refine HP1.out.mono ?_
  rintro e w1 ⟨v1, rfl, hv1, hb1⟩
  rw [← HBX.out]
  obtain ⟨a, n, rfl, hn, _, _, _, _⟩ := hv1.form
  have HN := Lib.hid hn
  have B2 := Lib.hid (hb1.alloc hb1.size (.cells #[.slice a n n, .bool bx] 66))
  have C2 := Lib.hid (cell2_new w1 (.slice a n n) (.bool bx) 66)
  have N2 := Lib.hid (hv1.below (alloc_below' w1 (.cells #[.slice a n n, .bool bx] 66)))
  have hz2 : (w1.alloc (.cells #[.slice a n n, .bool bx] 66)).heap.size = w1.heap.size + 1 := by simp
  have Z2 := Lib.hid hz2
  obtain ⟨K1, hK1⟩ : ∃ K1, K1 = w1.heap.size := ⟨_, rfl⟩
  rw [← hK1] at C2 Z2
  clear hv1 hb1 hn hz2
  have HK1 := Lib.hid hK1
  clear hK1
  go_wp2_with fail
  rw [← HK1.out]
  generalize w1.alloc (.cells #[.slice a n n, .bool bx] 66) = W2 at *
  refine (HP2.out W2).mono ?_
  rintro e w3 ⟨v3, rfl, hv3, hb3⟩
  rw [← HBY.out]
  obtain ⟨c, m, rfl, hm, _, _, _, _⟩ := hv3.form
  have HM := Lib.hid hm
  have hb4 := hb3.alloc hb3.size (.cells #[.slice c m m, .bool by'] 66)
  have B4 := Lib.hid (B2.out.trans (hb4.mono B2.out.size))
  have C4 := Lib.hid (cell2_new w3 (.slice c m m) (.bool by') 66)
  have N4 := Lib.hid (hv3.below (alloc_below' w3 (.cells #[.slice c m m, .bool by'] 66)))
  have M4 := Lib.hid (N2.out.below hb4)
  have hz4 : (w3.alloc (.cells #[.slice c m m, .bool by'] 66)).heap.size = w3.heap.size + 1 := by simp
  have Z4 := Lib.hid hz4
  have D4 := Lib.hid (show K1 < w3.heap.size by have := hb3.size; rw [Z2.out] at this; omega)
  have c0 := (below_at hb4 0 (show K1 < W2.heap.size by rw [Z2.out]; omega)).trans C2.out.1
  have c1 := (below_at hb4 1 (show K1 < W2.heap.size by rw [Z2.out]; omega)).trans C2.out.2
  have c2 := C4.out.1
  have c3 := C4.out.2
  obtain ⟨K3, hK3⟩ : ∃ K3, K3 = w3.heap.size := ⟨_, rfl⟩
  rw [← hK3] at c2 c3 Z4 D4
  have HK3 := Lib.hid hK3
  clear hv3 hb3 hm hb4 C2 C4 hK3 hz4
  go_wp2_with fail
  rw [← HK3.out]
  generalize w3.alloc (.cells #[.slice c m m, .bool by'] 66) = W4 at *
  refine (isZero_any _ _ W4 N4.out).mono ?_
  rintro e w5 ⟨rfl, rfl⟩
  rw [ZD.out]
  have hb5 := alloc_below' W4 (.cells #[.slice c m m] 64)
  have B5 := Lib.hid (B4.out.trans (hb5.mono B4.out.size))
  have N5 := Lib.hid (N4.out.below hb5)
  have M5 := Lib.hid (M4.out.below hb5)
  have d0 := (below_at hb5 0 (show K1 < W4.heap.size by rw [Z4.out]; have := D4.out; omega)).trans c0
  have d1 := (below_at hb5 1 (show K1 < W4.heap.size by rw [Z4.out]; have := D4.out; omega)).trans c1
  have d2 := (below_at hb5 0 (show K3 < W4.heap.size by rw [Z4.out]; omega)).trans c2
  have d3 := (below_at hb5 1 (show K3 < W4.heap.size by rw [Z4.out]; omega)).trans c3
  clear hb5 c0 c1 c2 c3
  generalize W4.alloc (.cells #[.slice c m m] 64) = W5 at *
  go_wp2_with fail
  refine (DM.out _ _ W5 M5.out N5.out).mono ?_
  rintro e w6 ⟨x', y', hbz, v6, u6, t6, rfl, hv6, hu6, ht6, hb6⟩
  obtain ⟨hdx, hdy⟩ := HZ.out x' y' hbz
  have HBZ := Lib.hid hbz
  obtain ⟨sg', hsg⟩ : ∃ sg', sg' = decide (G < 0) := ⟨_, rfl⟩
  obtain ⟨sx, hsx⟩ : ∃ sx, sx = decide (x' < 0) := ⟨_, rfl⟩
  obtain ⟨sy, hsy⟩ : ∃ sy, sy = decide (y' < 0) := ⟨_, rfl⟩
  rw [← hsg, ← hsx, ← hsy]
  have TG := Lib.hid (fun W v => TX.out G W v sg' HGD.out hsg)
  have TX' := Lib.hid (fun W v => TX.out x' W v sx hdx hsx)
  have TY := Lib.hid (fun W v => TX.out y' W v sy hdy hsy)
  obtain ⟨a6, n6, rfl, x1, x2, x3, x4, x5⟩ := hv6.form
  clear x1 x2 x3 x4 x5
  obtain ⟨c6, m6, rfl, x1, x2, x3, x4, x5⟩ := hu6.form
  clear x1 x2 x3 x4 x5
  obtain ⟨d6, i6, rfl, x1, x2, x3, x4, x5⟩ := ht6.form
  clear x1 x2 x3 x4 x5
  have B6 := Lib.hid (B5.out.trans (hb6.mono B5.out.size))
  have hz7 := World.size_alloc w6 (.cells #[.slice a6 n6 n6, .bool sg'] 66)
  have hz8 := World.size_alloc (w6.alloc (.cells #[.slice a6 n6 n6, .bool sg'] 66)) (.cells #[.slice c6 m6 m6, .bool sx] 66)
  rw [hz7] at hz8
  have P1 := Lib.hid (((NB.new (b := sg') 66 hv6 w6.heap.size rfl).step (alloc_below _ (.cells #[.slice c6 m6 m6, .bool sx] 66))).step (alloc_below _ (.cells #[.slice d6 i6 i6, .bool sy] 66)))
  have P2 := Lib.hid ((NB.new (b := sx) 66 (hu6.below (alloc_below _ (.cells #[.slice a6 n6 n6, .bool sg'] 66))) (w6.heap.size + 1) hz7.symm).step (alloc_below _ (.cells #[.slice d6 i6 i6, .bool sy] 66)))
  have P3 := Lib.hid (NB.new (b := sy) 66 ((ht6.below (alloc_below _ (.cells #[.slice a6 n6 n6, .bool sg'] 66))).below (alloc_below _ (.cells #[.slice c6 m6 m6, .bool sx] 66))) (w6.heap.size + 1 + 1) hz8.symm)
  have hb9 := (below_more (below_more (below_more (Below.refl w6.heap.size w6) (o := .cells #[.slice a6 n6 n6, .bool sg'] 66)) (o := .cells #[.slice c6 m6 m6, .bool sx] 66)) (o := .cells #[.slice d6 i6 i6, .bool sy] 66))
  have B9 := Lib.hid (B6.out.trans (hb9.mono B6.out.size))
  obtain ⟨K6, hK6⟩ : ∃ K6, K6 = w6.heap.size := ⟨_, rfl⟩
  rw [← hK6] at P1 P2 P3
  have HK6 := Lib.hid hK6
  clear hv6 hu6 ht6 hb6 hb9 hz7 hz8 hsg hsx hsy hK6 d0 d1 d2 d3 hdx hdy hbz
  go_upto_region 8 with fail
  rw [← HK6.out]
  generalize ((w6.alloc (.cells #[.slice a6 n6 n6, .bool sg'] 66)).alloc (.cells #[.slice c6 m6 m6, .bool sx] 66)).alloc (.cells #[.slice d6 i6 i6, .bool sy] 66) = W9 at *
  obtain ⟨e0, e1⟩ := P1.out.c
  obtain ⟨e2, e3⟩ := P1.out.d
  go_wp2_with fail
  refine (TG.out W9 _ P1.out.n).mono ?_
  rintro e w10 ⟨rfl, hb10⟩
  have Q2 := Lib.hid (P2.out.step hb10)
  have Q3 := Lib.hid (P3.out.step hb10)
  have B10 := Lib.hid (B9.out.trans (hb10.mono B9.out.size))
  obtain ⟨TG', hTG⟩ : ∃ s, s = tx G := ⟨_, rfl⟩
  rw [← hTG]
  obtain ⟨f0, f1⟩ := Q2.out.c
  obtain ⟨f2, f3⟩ := Q2.out.d
  clear hb10 e0 e1 e2 e3
  go_wp2_with fail
  refine (TX'.out w10 _ Q2.out.n).mono ?_
  rintro e w11 ⟨rfl, hb11⟩
  have R3 := Lib.hid (Q3.out.step hb11)
  have B11 := Lib.hid (B10.out.trans (hb11.mono B10.out.size))
  obtain ⟨TX2, hTX⟩ : ∃ s, s = tx x' := ⟨_, rfl⟩
  rw [← hTX]
  obtain ⟨g0, g1⟩ := R3.out.c
  obtain ⟨g2, g3⟩ := R3.out.d
  clear hb11 f0 f1 f2 f3
  go_wp2_with fail
  refine (TY.out w11 _ R3.out.n).mono ?_
  rintro e w12 ⟨rfl, hb12⟩
  have B12 := Lib.hid (B11.out.trans (hb12.mono B11.out.size))
  obtain ⟨TY2, hTY⟩ : ∃ s, s = tx y' := ⟨_, rfl⟩
  rw [← hTY]
  have HT := Lib.hid (show TG' = tx G ∧ TX2 = tx x' ∧ TY2 = tx y' from ⟨hTG, hTX, hTY⟩)
  clear hb12 hTG hTX hTY g0 g1 g2 g3
  go_wp2
  exact bodyPost_ret (v := .tuple #[.string TG', .string TX2, .string TY2, .int .i64 0]) (by simp [results, Tryz.results64, go_sem]; exact ⟨HT.out.1.symm, HT.out.2.1.symm⟩) rfl ⟨x', y', HBZ.out, by rw [HT.out.1, HT.out.2.1, HT.out.2.2], B12.out⟩
end Go.Proofs.YtphbfjcaehiboaaGreatDoor
namespace Go.Proofs.YtphbfjcaehiboaaGreatDoor
open Go.RowKit

theorem lit_tx {z : Int} {l : List UInt8} (h : Lib.itoa z = l) : tx z = ⟨l.toArray⟩ := by unfold tx; rw [h]
theorem t999 : tx 999 = ⟨#[57, 57, 57]⟩ := lit_tx (by simp [Lib.itoa, Lib.decDigits])
theorem t1 : tx 1 = ⟨#[49]⟩ := lit_tx (by simp [Lib.itoa, Lib.decDigits])
theorem t1000 : tx 1000 = ⟨#[49, 48, 48, 48]⟩ := lit_tx (by simp [Lib.itoa, Lib.decDigits])
theorem tm7 : tx (-7) = ⟨#[45, 55]⟩ := lit_tx (by simp [Lib.itoa, Lib.decDigits])
theorem t2 : tx 2 = ⟨#[50]⟩ := lit_tx (by simp [Lib.itoa, Lib.decDigits])
theorem tm4 : tx (-4) = ⟨#[45, 52]⟩ := lit_tx (by simp [Lib.itoa, Lib.decDigits])
theorem t12 : tx 12 = ⟨#[49, 50]⟩ := lit_tx (by simp [Lib.itoa, Lib.decDigits])
theorem t18 : tx 18 = ⟨#[49, 56]⟩ := lit_tx (by simp [Lib.itoa, Lib.decDigits])
theorem t6 : tx 6 = ⟨#[54]⟩ := lit_tx (by simp [Lib.itoa, Lib.decDigits])
theorem tm1 : tx (-1) = ⟨#[45, 49]⟩ := lit_tx (by simp [Lib.itoa, Lib.decDigits])
theorem t1024 : tx 1024 = ⟨#[49, 48, 50, 52]⟩ := lit_tx (by simp [Lib.itoa, Lib.decDigits])
theorem t99 : tx 99 = ⟨#[57, 57]⟩ := lit_tx (by simp [Lib.itoa, Lib.decDigits])
theorem t9 : tx 9 = ⟨#[57]⟩ := lit_tx (by simp [Lib.itoa, Lib.decDigits])
def GivesE2 (s : ByteArray) (n : Int) (w : World) (e : Ending) (w' : World) : Prop := e = .returned (.tuple #[.string s, .int .i64 n]) ∧ Below w.heap.size w w'
theorem GivesX.ok {z : Int} {w : World} {e : Ending} {w' : World} (h : GivesX z w e w') (hd : dn z ≤ 1000) : GivesE2 (tx z) 0 w e w' := by
  unfold GivesX at h
  rwa [if_pos hd, if_pos hd] at h
theorem is_yes (s : ByteArray) (w : World) : Calls Tryz.prog 68 #[.string s, .int .i64 0, .string s] w fun e w' => e = .returned (.bool true) ∧ w = w' := by
  refine (is_any s s 0 w).mono ?_
  rintro e w' ⟨rfl, h⟩
  exact ⟨by rw [decide_eq_true rfl, decide_eq_true rfl]; rfl, h⟩
theorem bez1218 {x y : Int} (h : Bez 12 18 x y) : x = 2 ∧ y = -1 := by
  obtain ⟨h1, h2, h3⟩ := h
  have e1 : per 12 18 = 3 := by decide
  have e2 : (Int.gcd 12 18 : Int) = 6 := by decide
  rw [e1] at h2
  rw [e2] at h3
  omega
set_option maxHeartbeats 4000000 in
set_option maxRecDepth 100000 in
theorem awake_any (w : World) (tb : Tb w) : Calls Tryz.prog 28 #[] w fun e w' => e = .returned (.bool true) ∧ Below w.heap.size w w' := by
  have d (z : Int) (h1 : -9223372036854775808 ≤ z) (h2 : z ≤ 9223372036854775807) : dn z ≤ 1000 := dn_word h1 h2
  have A1 : Hid (Calls Tryz.prog 19 #[.string ⟨#[57, 57, 57]⟩, .string ⟨#[49]⟩] w (GivesE2 ⟨#[49, 48, 48, 48]⟩ 0 w)) := by
    have h := (Add_tx 999 1 w tb (d _ (by omega) (by omega)) (d _ (by omega) (by omega))).mono (fun e w' h => GivesX.ok h (d _ (by omega) (by omega)))
    rw [t999, t1, show (999 : Int) + 1 = 1000 by rfl, t1000] at h
    exact h
  have A2 : Hid (∀ W, Tb W → Calls Tryz.prog 25 #[.string ⟨#[45, 55]⟩, .string ⟨#[50]⟩] W (GivesQr ⟨#[45, 52]⟩ ⟨#[49]⟩ 0 W)) := by
    intro W tb
    have h := DivMod_tx (-7) 2 W tb (d _ (by omega) (by omega)) (d _ (by omega) (by omega)) (by decide)
    rw [show Int.fdiv (-7) 2 = -4 by decide, show Int.fmod (-7) 2 = 1 by decide, tm7, t2, tm4, t1] at h
    exact h
  have A3 : Hid (∀ W, Calls Tryz.prog 64 #[.string ⟨#[49, 50]⟩, .string ⟨#[49, 56]⟩] W (GivesQ4 ⟨#[54]⟩ ⟨#[50]⟩ ⟨#[45, 49]⟩ 0 W)) := by
    intro W
    have h := Bezout_tx 12 18 W (d _ (by omega) (by omega)) (d _ (by omega) (by omega)) (by decide)
    rw [t12, t18] at h
    refine h.mono ?_
    rintro e w' ⟨x', y', hb, he⟩
    obtain ⟨rfl, rfl⟩ := bez1218 hb
    rw [show (Int.gcd 12 18 : Int) = 6 by decide, t6, t2, tm1] at he
    exact he
  have A4 : Hid (∀ W, Calls Tryz.prog 29 #[.string ⟨#[50]⟩, .int .i64 10] W (GivesE2 ⟨#[49, 48, 50, 52]⟩ 0 W)) := by
    intro W
    have h := (Pow_tx 2 10 W (d _ (by omega) (by omega)) (by decide)).mono (fun e w' h => GivesX.ok h (d _ (by decide) (by decide)))
    rw [t2, show (2 : Int) ^ 10 = 1024 by decide, t1024] at h
    exact h
  have A5 : Hid (∀ W, Calls Tryz.prog 66 #[.string ⟨#[57, 57]⟩] W (GivesE2 ⟨#[57]⟩ 0 W)) := by
    intro W
    have h := (Root_pos 99 W (d _ (by omega) (by omega)) (by decide) 9 ⟨by decide, by decide, by decide⟩).mono (fun e w' h => GivesX.ok h (d _ (by decide) (by decide)))
    rw [t99, t9] at h
    exact h
  obtain ⟨R1, hR1⟩ : ∃ s, s = (⟨#[49]⟩ : ByteArray) := ⟨_, rfl⟩
  obtain ⟨R2, hR2⟩ : ∃ s, s = (⟨#[50]⟩ : ByteArray) := ⟨_, rfl⟩
  obtain ⟨R3, hR3⟩ : ∃ s, s = (⟨#[45, 49]⟩ : ByteArray) := ⟨_, rfl⟩
  have A2' : Hid (∀ W, Tb W → Calls Tryz.prog 25 #[.string ⟨#[45, 55]⟩, .string ⟨#[50]⟩] W (GivesQr ⟨#[45, 52]⟩ R1 0 W)) := by rw [hR1]; exact A2
  have A3' : Hid (∀ W, Calls Tryz.prog 64 #[.string ⟨#[49, 50]⟩, .string ⟨#[49, 56]⟩] W (GivesQ4 ⟨#[54]⟩ R2 R3 0 W)) := by rw [hR2, hR3]; exact A3
  have e1 : (R1.toList == [49]) = true := by rw [Lib.toList_data, hR1]; rfl
  have e2 : (R2.toList == [50]) = true := by rw [Lib.toList_data, hR2]; rfl
  have e3 : (R3.toList == [45, 49]) = true := by rw [Lib.toList_data, hR3]; rfl
  clear A2 A3 hR1 hR2 hR3
  have V1 := Lib.hid (fun W => Valid_bad ⟨#[45, 48]⟩ W (by decide) (by decide))
  have V2 := Lib.hid (fun W => Valid_bad ⟨#[48, 48, 55]⟩ W (by decide) (by decide))
  have TB := Lib.hid tb
  clear d tb
  go_enter Tryz.func28, Tryz.ntmps28
  go_wp2_with fail
  refine A1.out.mono ?_
  rintro e w1 ⟨rfl, hb1⟩
  have B1 := Lib.hid hb1
  have T1 := Lib.hid (TB.out.below hb1)
  clear hb1
  go_wp2_with fail
  refine (A2'.out _ T1.out).mono ?_
  rintro e w2 ⟨rfl, hb2⟩
  have B2 := Lib.hid (B1.out.trans (hb2.mono B1.out.size))
  clear hb2
  go_wp2_with fail
  refine (A3'.out _).mono ?_
  rintro e w3 ⟨rfl, hb3⟩
  have B3 := Lib.hid (B2.out.trans (hb3.mono B2.out.size))
  clear hb3
  go_wp2_with fail
  refine (A4.out _).mono ?_
  rintro e w4 ⟨rfl, hb4⟩
  have B4 := Lib.hid (B3.out.trans (hb4.mono B3.out.size))
  clear hb4
  go_wp2_with fail
  refine (A5.out _).mono ?_
  rintro e w5 ⟨rfl, hb5⟩
  have B5 := Lib.hid (B4.out.trans (hb5.mono B4.out.size))
  clear hb5
  go_wp2_with (first | (go_at_call 68; (with_reducible refine Calls.mono (is_yes _ _) ?_); rintro e w' ⟨rfl, rfl⟩) | (go_at_call 7; first | ((with_reducible refine Calls.mono (V1.out _) ?_); rintro e w' ⟨rfl, rfl⟩) | ((with_reducible refine Calls.mono (V2.out _) ?_); rintro e w' ⟨rfl, rfl⟩)))
  go_ret
  exact ⟨rfl, B5.out⟩
end Go.Proofs.YtphbfjcaehiboaaGreatDoor
namespace Go.Proofs.YtphbfjcaehiboaaGreatDoor
open Go.RowKit

theorem tx_is0 (z : Int) : ((tx z).toList == [48]) = decide (z = 0) := by
  have h0 : (tx 0).toList = [48] := by rw [Lib.toList_data, tx_list]; simp [Lib.itoa, Lib.decDigits]
  by_cases h : z = 0
  · rw [h, h0, decide_eq_true rfl]; rfl
  · rw [decide_eq_false h, beq_eq_false_iff_ne]
    intro e
    rw [← h0, Lib.toList_data, Lib.toList_data] at e
    exact h (tx_inj.1 (ba_ext e))
theorem dn_of_le {x : Int} {k : Nat} (hk : 1 ≤ k) (h : (x.natAbs : Int) < Ten.bp k) : dn x ≤ k := by
  rw [← dn_abs]
  exact dn_le (by omega) hk h
theorem abs_lt {x : Int} {k : Nat} (h : dn x ≤ k) : (x.natAbs : Int) < Ten.bp k := by
  have h1 := dn_lt (x := (x.natAbs : Int)) (by omega)
  rw [dn_abs] at h1
  exact Int.lt_of_lt_of_le h1 (Ten.bp_mono h)
theorem dn_plus {x y : Int} {k : Nat} (hx : dn x ≤ k) (hy : dn y ≤ k) : dn (x + y) ≤ k + 1 := by
  refine dn_of_le (by omega) ?_
  rw [Ten.bp_succ]
  have := abs_lt hx
  have := abs_lt hy
  omega
theorem dn_times {x y : Int} {j k : Nat} (hx : dn x ≤ j) (hy : dn y ≤ k) (hj : 1 ≤ j) : dn (x * y) ≤ j + k := by
  refine dn_of_le (by omega) ?_
  rw [Int.natAbs_mul, Int.natCast_mul]
  exact Ten.mul_lt_bp (by omega) (by omega) (abs_lt hx) (abs_lt hy)
end Go.Proofs.YtphbfjcaehiboaaGreatDoor
