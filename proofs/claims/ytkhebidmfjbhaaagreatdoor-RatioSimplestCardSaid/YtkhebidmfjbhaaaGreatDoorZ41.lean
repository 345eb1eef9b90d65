/-
  What the reference's Quotient returns: a written division.
  What the reference's Divisor, Gcd and DivMod return.
  What the reference's Fit returns: an integer of at most so many digits.
-/
import Derived.Test.YtkhebidmfjbhaaaGreatDoorZ40
import Derived.BigRegion
import Derived.Test.YtkhebidmfjbhaaaGreatDoorZ28
import Derived.Test.YtkhebidmfjbhaaaGreatDoorZ14
import Derived.Deep.LoopGhost
import Derived.Test.YtkhebidmfjbhaaaGreatDoorZ25
namespace Go.Proofs.YtkhebidmfjbhaaaGreatDoor
open Go.RowKit
open Go
set_option maxHeartbeats 4000000 in
set_option maxRecDepth 100000 in
theorem rquo_long (x y : Int) (w : World) (hx : dn x ≤ 40000) (hy : dn y ≤ 40000) (h0 : y ≠ 0) (h9 : ¬ (dn x ≤ 9 ∧ dn y ≤ 9)) :
    Calls Tryz.prog 153 #[.string (tx x), .string (tx y)] w (GivesQQ (tx (x.fdiv y)) (tx (x.fmod y)) w) := by
  obtain ⟨i0, hi, hz0, hz1, hz2⟩ := info_parts infoI64
  have SX := Lib.hid (fun W => rshort_any x W (by omega))
  have SY := Lib.hid (fun W => rshort_any y W (by omega))
  obtain ⟨b1, hb1⟩ : ∃ b, b = decide (dn x ≤ 9) := ⟨_, rfl⟩
  obtain ⟨b2, hb2⟩ : ∃ b, b = decide (dn y ≤ 9) := ⟨_, rfl⟩
  obtain ⟨m1, hm1⟩ : ∃ m, m = sv x := ⟨_, rfl⟩
  obtain ⟨m2, hm2⟩ : ∃ m, m = sv y := ⟨_, rfl⟩
  obtain ⟨A, hA⟩ : ∃ T, T = tx x := ⟨_, rfl⟩
  obtain ⟨B, hB⟩ : ∃ T, T = tx y := ⟨_, rfl⟩
  rw [← hb1, ← hm1, ← hA] at SX
  rw [← hb2, ← hm2, ← hB] at SY
  have hbb : b1 = false ∨ b1 = true ∧ b2 = false := by
    rw [hb1, hb2]
    by_cases h1 : dn x ≤ 9 <;> by_cases h2 : dn y ≤ 9 <;> simp [h1, h2]
    exact h9 ⟨h1, h2⟩
  obtain ⟨px, hpx⟩ : ∃ b, b = decide (x < 0) := ⟨_, rfl⟩
  obtain ⟨qy, hqy⟩ : ∃ b, b = decide (y < 0) := ⟨_, rfl⟩
  obtain ⟨X, hX⟩ : ∃ X : Int, X = x.natAbs := ⟨_, rfl⟩
  obtain ⟨Y, hY⟩ : ∃ Y : Int, Y = y.natAbs := ⟨_, rfl⟩
  obtain ⟨n, hn⟩ : ∃ n, n = Ten.nl X := ⟨_, rfl⟩
  obtain ⟨k, hk⟩ : ∃ k, k = Ten.nl Y := ⟨_, rfl⟩
  have DX := Lib.hid (fun W => rdg2 x px X n A hpx hX hn hA W (by omega))
  have DY := Lib.hid (fun W => rdg2 y qy Y k B hqy hY hk hB W (by omega))
  have HX0 : Hid (0 ≤ X) := Lib.hid (by omega)
  have HY0 : Hid (0 < Y) := Lib.hid (by omega)
  have HXL : Hid (X < Ten.bp n) := Lib.hid (by rw [hn]; exact Ten.nl_lt HX0.out)
  have HYL : Hid (Y < Ten.bp k) := Lib.hid (by rw [hk]; exact Ten.nl_lt (Int.le_of_lt HY0.out))
  have hnn : n ≤ 40000 := by
    refine Nat.le_trans (hn ▸ Ten.nl_le ?_) hx
    have := dn_lt HX0.out
    rwa [hX, dn_abs, ← hX] at this
  have hkk : k ≤ 40000 := by
    refine Nat.le_trans (hk ▸ Ten.nl_le ?_) hy
    have := dn_lt (Int.le_of_lt HY0.out)
    rwa [hY, dn_abs, ← hY] at this
  have hk1 : 1 ≤ k := by rw [hk]; exact Ten.nl_pos HY0.out
  have HYG : Hid (Ten.bp (k - 1) ≤ Y) := Lib.hid (Ten.nl_ge (by omega))
  obtain ⟨sg, hsg⟩ : ∃ sg, (!(px == qy)) = sg := ⟨_, rfl⟩
  obtain ⟨q1, q2⟩ := quo_signs x y
  have HT1 : Hid ((if sg = true then -(X / Y) else X / Y) = x.tdiv y) := Lib.hid (by rw [q1, ← hsg, hpx, hqy, hX, hY]; rfl)
  have HT2 : Hid ((if px = true then -(X % Y) else X % Y) = x.tmod y) := Lib.hid (by
    rw [q2, hpx, hX, hY]
    by_cases h : x < 0
    · rw [decide_eq_true h, if_pos rfl, if_pos h]
    · rw [decide_eq_false h, if_neg (by simp), if_neg h])
  have HFX := Lib.hid (trunc_fix (x := x) h0)
  have HSG : Hid (x.tmod y ≠ 0 → (decide (x.tmod y < 0) = decide (y < 0) ↔ sg = false)) := Lib.hid (fun hne => by
    have h1 := HT2.out
    have h2 : 0 ≤ X % Y := Int.emod_nonneg _ (by have := HY0.out; omega)
    rw [← h1] at hne ⊢
    rw [← hsg, ← hqy]
    cases px
    · rw [if_neg (by simp)] at hne ⊢
      rw [decide_eq_false (by omega)]
      cases qy <;> simp
    · rw [if_pos rfl] at hne ⊢
      rw [decide_eq_true (by omega)]
      cases qy <;> simp)
  have HB1 : Hid (dn (x.tdiv y) ≤ 40000 ∧ dn (x.tmod y) ≤ 40000) := Lib.hid ⟨Nat.le_trans (dnabs_le (by rw [Int.natAbs_tdiv]; exact Nat.div_le_self _ _)) hx, Nat.le_trans (dnabs_le (by rw [Int.natAbs_tmod]; exact Nat.mod_le _ _)) hx⟩
  have HYD := Lib.hid hy
  have HBY := Lib.hid hB
  have HN1 := Lib.hid hn
  have HN2 := Lib.hid hk
  obtain ⟨S, hS⟩ : ∃ S : Nat, S = n - (k - 1) := ⟨_, rfl⟩
  have hS1 : S ≤ n := by omega
  have hS2 : n ≤ S + (k - 1) := by omega
  have hSi : max 0 ((n : Int) - ((k : Int) - 1)) = (S : Int) := by omega
  have hki : max (0 : Int) ((k : Int) - 1) = (k : Int) - 1 := by omega
  have hHS := head_lt (X := X) (Y := Y) (n := n) (k := k) (S := S) HXL.out HYG.out hS2
  have HHS := Lib.hid hHS
  rw [← hA, ← hB]
  clear hb1 hb2 hm1 hm2 hA hB hpx hqy hX hY hn hk hx hy h9 hS hHS h0
  go_enter Tryz.func153, Tryz.ntmps153
  go_wp2_with fail
  refine (SX.out w).mono ?_
  rintro e w' ⟨rfl, rfl⟩
  go_wp2_with fail
  refine (SY.out w).mono ?_
  rintro e w' ⟨rfl, rfl⟩
  rcases hbb with rfl | ⟨rfl, rfl⟩
  all_goals
    go_wp2_with fail
    refine (DX.out w).mono ?_
    rintro e w1 ⟨g1, o1, c1, rfl, hc1, hg1, hr1, hb1⟩
    have R1 := Lib.hid (RowP.of hr1 hg1)
    have B1 := Lib.hid hb1
    clear hr1 hb1 hg1
    go_wp2_with fail
    refine (DY.out w1).mono ?_
    rintro e w2 ⟨g2, o2, c2, rfl, hc2, hg2, hr2, hb2⟩
    replace R1 := Lib.hid (R1.out.below hb2)
    have R2 := Lib.hid (RowP.of hr2 hg2)
    have B2 := Lib.hid (B1.out.trans (hb2.mono B1.out.size))
    clear hr2 hb2 hg2 hc2
    have hws := B2.out.size
    obtain ⟨p, cx, hp, SL⟩ := slice_from g1 o1 n c1 S hS1 hc1
    have hsrc : RowP w2 g1 p (n - S) (X / Ten.bp S) := by
      by_cases h : S < n
      · rw [hp h]; exact R1.out.shift hS1
      · exact ⟨R1.out.1, fun j hj => absurd hj (by omega)⟩
    have HS0 : Hid (0 ≤ X / Ten.bp S ∧ X / Ten.bp S < Ten.bp (n - S)) := Lib.hid ⟨Int.ediv_nonneg HX0.out (Int.le_of_lt (Ten.bp_pos S)), Int.ediv_lt_of_lt_mul (Ten.bp_pos S) (by rw [← Ten.bp_add, show n - S + S = n by omega]; exact HXL.out)⟩
    have HSRC := Lib.hid (hsrc.below ((Below.refl w2.heap.size w2).alloc (Nat.le_refl _) (.cells #[] 3))).vals
    clear hp hsrc
    go_wp2_with (at_builtin; refine wpList_append_at _ rfl _ _ 133 rfl w2.heap.size 3 i0 (.int .i64 0) 1 8 und64i hi hz0 hz1 hz2 rfl (by decide) _ _ _ rfl ((World.ownsRow_lit w2 #[] 0 (Nat.le_refl _) (by unfold maxLen; omega) rfl)) ⟨g1, p, none⟩ (n - S) cx (vals (dl (X / Ten.bp S) (n - S))) rfl (vals_len _ _) HSRC.out (vals_one _ _) (by unfold maxLen; omega) (by omega) (by simp) ?_)
    intro v' w3 hown hgrow hnil _
    have hne : v' ≠ .slice none 0 0 := hnil
    obtain ⟨g3, c3, hv3, hc3, hg3, hg3', hrow3⟩ := own_place hown hne
    subst hv3
    have hb3 : Below w2.heap.size w2 w3 := ((Below.refl w2.heap.size w2).alloc (Nat.le_refl _) _).grown hgrow (by simp) (fun k hk => by have : w2.heap.size = k := by simpa [Value.ownBlock] using hk
                                                                                                                                        omega)
    have TR := Lib.hid (rtrim_any (some ⟨g3, 0, none⟩) (n - S) c3 (X / Ten.bp S) w3 HS0.out.1 HS0.out.2 hc3 (by omega) hrow3.row)
    have Q0 : QR w2 w3 X Y S (.slice none 0 0) (.slice (some ⟨g3, 0, none⟩) (Ten.nl (X / Ten.bp S)) c3) ((S : Int) - 1) S g3 0 c3 (X / Ten.bp S) := by
      have hl : Ten.nl (X / Ten.bp S) ≤ n - S := Ten.nl_le HS0.out.2
      refine ⟨Nat.le_refl _, rfl, (Int.emod_eq_of_lt HS0.out.1 HHS.out).symm, rfl, Nat.le_trans hl hc3, ⟨hrow3.1, fun j hj => hrow3.2 j (by omega)⟩, ?_, by simp [Value.ownBlock], hb3⟩
      rw [Nat.sub_self]
      exact World.ownsRow_nil _ _ _ _
    have Q0H := Lib.hid Q0
    clear hown hgrow hnil hne hrow3 hb3 Q0 SL HSRC hc3 hg3
    go_wp2_with fail
    refine TR.out.mono ?_
    rintro e w' ⟨rfl, rfl⟩
    go_wp2_with fail
    go_loopw [17, 18, 19] (fun vq vr vi wr => ∃ (z : Int) (c g o cc : Nat) (R : Int), vi = .int .i64 z ∧ QR w2 wr X Y S vq vr z c g o cc R) (fun _ _ vi _ => (intOf vi + 1).toNat)
    case atStart => exact ⟨_, _, _, _, _, _, rfl, Q0H.out⟩
    case round =>
      clear Q0H TR
      obtain ⟨z, c, g, o, cc, R, rfl, hq⟩ := hrel
      have HQ := Lib.hid hq
      obtain rfl := hq.vr
      have hz := hq.hz
      have hle := hq.le
      clear hq
      rcases Nat.eq_zero_or_pos c with hc0 | hc0
      · obtain rfl : z = -1 := by omega
        clear hz
        obtain rfl := hc0
        obtain ⟨a, cq, hvq, hcq, hcl⟩ := own_cells (by simpa using HQ.out.own) HQ.out.below
        subst hvq
        have HCL : Hid (0 < S → ∃ gq, a = some ⟨gq, 0, none⟩ ∧ g ≠ gq ∧ RowI w2 wr gq S (mid (X / Y) S 0)) := Lib.hid (fun h => by
          obtain ⟨gq, e1, e2, e3⟩ := hcl h
          exact ⟨gq, e1, fun e => HQ.out.apart (by rw [e2, e]), e3⟩)
        have HRR := Lib.hid HQ.out.row
        have HBL := Lib.hid HQ.out.below
        have HRV := Lib.hid HQ.out.hR
        have HCP := Lib.hid HQ.out.cap
        clear hcl HQ
        go_wp2_with fail
        go_loopw [21] (fun vi wo => ∃ i : Nat, i ≤ S / 2 ∧ vi = .int .i64 i ∧ Hid (0 < S → ∃ gq, a = some ⟨gq, 0, none⟩ ∧ g ≠ gq ∧ RowI w2 wo gq S (mid (X / Y) S i)) ∧ RowP wo g o (Ten.nl R) R ∧ Below w2.heap.size w2 wo) (fun vi _ => S / 2 - (intOf vi).toNat)
        case atStart => exact ⟨0, by omega, rfl, HCL, HRR.out, HBL.out⟩
        case round =>
          clear HCL HRR HBL
          obtain ⟨i, hi2, rfl, hcl, hrr, hbl⟩ := hrel
          have HRR := Lib.hid hrr
          have HBL := Lib.hid hbl
          clear hrr hbl
          by_cases his : i < S / 2
          · have his' : (i : Int) < (S : Int) / 2 := by omega
            obtain ⟨gq, hae, hgq, hri⟩ := hcl.out (by omega)
            subst hae
            obtain ⟨t, ht⟩ : ∃ t : Nat, t = S - 1 - i := ⟨_, rfl⟩
            obtain ⟨ml1, ml2⟩ := mid_low (Q := X / Y) his
            have c1 := hri.cells i (by omega)
            have c2 := hri.cells t (by omega)
            have c3 := hri.free i (by omega)
            have c4 := hri.free t (by omega)
            rw [ml1, ← ht] at c1
            rw [ht, ml2, ← ht] at c2
            have hti : (S : Int) - 1 - (i : Int) = (t : Int) := by omega
            have hit : i ≠ t := by omega
            have htS : t < S := by omega
            have HRI := Lib.hid hri
            have HTT := Lib.hid ht
            clear hri ml1 ml2 ht hcl
            go_wp2_with fail
            have hti2 : IntKind.i64.wrap ((S : Int) - 1) = (S : Int) - 1 := IntWalk.i64_in _ (by omega)
            have hti3 : IntKind.i64.wrap (t : Int) = (t : Int) := IntWalk.i64_in _ (by omega)
            go_region
            go_wp2
            go_roundw
            case rel =>
              refine ⟨i + 1, by omega, by go_num, ?_, ?_, ?_⟩
              · exact Lib.hid (fun _ => ⟨gq, rfl, hgq, swap_rel his HTT.out HRI.out ⟨0, 0, 1, rfl⟩⟩)
              · exact swap_row HRR.out hgq ⟨0, 0, 1, rfl⟩
              · exact (swap_rel his HTT.out HRI.out ⟨0, 0, 1, rfl⟩).below
            case measure => simp [intOf]; omega
          · have his' : ¬ (i : Int) < (S : Int) / 2 := by omega
            have hrd : RowD wr wr.heap.size a S (X / Y) := by
              rcases Nat.eq_zero_or_pos S with h | h
              · exact fun h2 => absurd h2 (by omega)
              · obtain ⟨gq, e, _, hri⟩ := hcl.out h
                rw [e]
                exact hri.row (fun j hj => mid_end his hj)
            have hql := quo_len (S := S) HX0.out HY0.out HHS.out
            have hR0 : R = X % Y := by rw [HRV.out, Ten.div_bp_zero]
            have hR1 : 0 ≤ R := by rw [hR0]; exact Int.emod_nonneg _ (by have := HY0.out; omega)
            have hRk : Ten.nl R ≤ k := Ten.nl_le (by rw [hR0]; exact Int.lt_trans (Int.emod_lt_of_pos _ HY0.out) HYL.out)
            have T1 := Lib.hid (rtext_any sg a S cq (X / Y) wr (Int.ediv_nonneg HX0.out (Int.le_of_lt HY0.out)) hql hcq (by omega) hrd)
            have T2 : Hid (∀ W, Below wr.heap.size wr W → Calls Tryz.prog 146 #[.bool px, .slice (some ⟨g, o, none⟩) (Ten.nl R) cc] W (GivesY (tx (x.tmod y)) W)) := Lib.hid (fun W hW => by
              have := rtext_any px (some ⟨g, o, none⟩) (Ten.nl R) cc R W hR1 (Ten.nl_lt hR1) HCP.out (by omega) ((HRR.out.below hW).row)
              rw [← HT2.out, ← hR0]
              exact this)
            rw [HT1.out] at T1
            have BQ := Lib.hid (B2.out.trans (HBL.out.mono B2.out.size))
            have hzt := tx_zero_test (x.tmod y)
            obtain ⟨f1, f2, f3⟩ := HFX.out
            have hsgx := HSG.out
            obtain ⟨d1, d2⟩ := HB1.out
            generalize x.tdiv y = tq at *
            generalize x.tmod y = tr at *
            obtain ⟨S1, hS1e⟩ : ∃ T, T = tx tq := ⟨_, rfl⟩
            obtain ⟨S2, hS2e⟩ : ∃ T, T = tx tr := ⟨_, rfl⟩
            rw [← hS1e] at T1
            rw [← hS2e] at T2 hzt
            have HE1 := Lib.hid hS1e
            have HE2 := Lib.hid hS2e
            clear hrd hql hR0 hR1 hRk hS1e hS2e
            by_cases htr : tr = 0
            · obtain ⟨k1, k2⟩ := f1 htr
              have KE1 : Hid (S1 = tx (x.fdiv y)) := Lib.hid (by rw [HE1.out, k1])
              have KE2 : Hid (S2 = tx (x.fmod y)) := Lib.hid (by rw [HE2.out, k2])
              rw [decide_eq_true htr] at hzt
              have hzn : (S2.toList != [48]) = false := by unfold bne; rw [hzt]; rfl
              clear f1 f2 f3 hsgx k1 k2 htr
              go_wp2_with fail
              (with_reducible refine Calls.mono T1.out ?_)
              rintro e w4 ⟨rfl, hb4⟩
              have HB4 := Lib.hid hb4
              clear hb4
              go_wp2_with fail
              (with_reducible refine Calls.mono (T2.out _ HB4.out) ?_)
              rintro e w5 ⟨rfl, hb5⟩
              have HB5 := Lib.hid (BQ.out.trans ((HB4.out.trans (hb5.mono HB4.out.size)).mono BQ.out.size))
              clear hb5
              go_wp2
              go_ret2
              exact ⟨ret_qq KE1.out KE2.out, HB5.out⟩
            · rw [decide_eq_false htr] at hzt
              have hzn : (S2.toList != [48]) = true := by unfold bne; rw [hzt]; rfl
              have hsg2 := hsgx htr
              cases hsgv : sg
              · subst hsgv
                obtain ⟨k1, k2⟩ := f2 htr (hsg2.2 rfl)
                have KE1 : Hid (S1 = tx (x.fdiv y)) := Lib.hid (by rw [HE1.out, k1])
                have KE2 : Hid (S2 = tx (x.fmod y)) := Lib.hid (by rw [HE2.out, k2])
                clear f1 f2 f3 hsgx k1 k2 htr hsg2
                go_wp2_with fail
                (with_reducible refine Calls.mono T1.out ?_)
                rintro e w4 ⟨rfl, hb4⟩
                have HB4 := Lib.hid hb4
                clear hb4
                go_wp2_with fail
                (with_reducible refine Calls.mono (T2.out _ HB4.out) ?_)
                rintro e w5 ⟨rfl, hb5⟩
                have HB5 := Lib.hid (BQ.out.trans ((HB4.out.trans (hb5.mono HB4.out.size)).mono BQ.out.size))
                clear hb5
                go_wp2
                go_ret2
                exact ⟨ret_qq KE1.out KE2.out, HB5.out⟩
              · subst hsgv
                obtain ⟨k1, k2⟩ := f3 htr (fun e => by have := hsg2.1 e; cases this)
                have MI := Lib.hid (fun W => rminus_any tq 1 W (by omega) (by rw [← dn_abs]; exact Nat.le_trans (dnabs_le (x := 1) (y := 9) (by decide)) (by simp [dn, Lib.nDigits_small])))
                have PL := Lib.hid (fun W => rplus_any tr y W (by omega) (by have := HYD.out; omega))
                rw [tx_one, ← HE1.out] at MI
                rw [← HE2.out, ← HBY.out] at PL
                obtain ⟨S3, hS3e⟩ : ∃ T, T = tx (tq - 1) := ⟨_, rfl⟩
                obtain ⟨S4, hS4e⟩ : ∃ T, T = tx (tr + y) := ⟨_, rfl⟩
                rw [← hS3e] at MI
                rw [← hS4e] at PL
                have HE3 : Hid (S3 = tx (x.fdiv y)) := Lib.hid (by rw [hS3e, k1])
                have HE4 : Hid (S4 = tx (x.fmod y)) := Lib.hid (by rw [hS4e, k2])
                clear f1 f2 f3 hsgx k1 k2 htr hsg2 hS3e hS4e
                go_wp2_with fail
                (with_reducible refine Calls.mono T1.out ?_)
                rintro e w4 ⟨rfl, hb4⟩
                have HB4 := Lib.hid hb4
                clear hb4
                go_wp2_with fail
                (with_reducible refine Calls.mono (T2.out _ HB4.out) ?_)
                rintro e w5 ⟨rfl, hb5⟩
                have HB5 := Lib.hid (BQ.out.trans ((HB4.out.trans (hb5.mono HB4.out.size)).mono BQ.out.size))
                clear hb5
                go_wp2_with fail
                (with_reducible refine Calls.mono (MI.out _) ?_)
                rintro e w6 ⟨rfl, hb6⟩
                have HB6 := Lib.hid (HB5.out.trans (hb6.mono HB5.out.size))
                clear hb6
                go_wp2_with fail
                (with_reducible refine Calls.mono (PL.out _) ?_)
                rintro e w7 ⟨rfl, hb7⟩
                have HB7 := Lib.hid (HB6.out.trans (hb7.mono HB6.out.size))
                clear hb7
                go_wp2
                go_ret2
                exact ⟨ret_qq HE3.out HE4.out, HB7.out⟩
      · obtain ⟨j, hj⟩ : ∃ j, c = j + 1 := ⟨c - 1, by omega⟩
        obtain rfl : z = (j : Int) := by omega
        subst hj
        clear hz
        have hjS : j < S := by omega
        obtain ⟨q0, q1, q2, q3⟩ := quo_step (X := X) (Y := Y) (R := R) (i := j) HY0.out HQ.out.hR
        have hlx := Ten.lz_bd X j
        have hws2 := HQ.out.below.size
        have cX := (below_at HQ.out.below (o1 + j) R1.out.1).trans (R1.out.2 j (by omega))
        obtain ⟨lx, hlxe⟩ : ∃ lx, lx = Ten.lz X j := ⟨_, rfl⟩
        rw [← hlxe] at q2 q3 hlx cX
        have hnR : Ten.nl R ≤ k := Ten.nl_le (Int.lt_trans q1 HYL.out)
        obtain ⟨nR, hnRe⟩ : ∃ nR, nR = Ten.nl R := ⟨_, rfl⟩
        have HRR := Lib.hid HQ.out.row
        have HCC := Lib.hid HQ.out.cap
        rw [← hnRe] at hnR HRR HCC ⊢
        have HVC := Lib.hid (vals_cons (R := R) hlx nR)
        have HLC : Hid (lx + 10 * R < Ten.bp (nR + 1)) := Lib.hid (lt_cons hlx (by rw [hnRe]; exact Ten.nl_lt q0))
        have HQD := Lib.hid q2
        have HQM := Lib.hid q3
        obtain ⟨V, hV⟩ : ∃ V, V = lx + 10 * R := ⟨_, rfl⟩
        have hV0 : 0 ≤ V := by omega
        have hV9 : V < 10 * Y := by omega
        rw [← hV] at HVC HLC HQD HQM
        have HV9 := Lib.hid hV9
        have HSRC := Lib.hid (HRR.out.below ((Below.refl wr.heap.size wr).alloc (Nat.le_refl _) (.cells #[.int .i64 lx] 3))).vals
        clear q2 q3 hlxe hnRe hV hV9
        go_wp2_with (at_builtin; refine wpList_append_at _ rfl _ _ 133 rfl wr.heap.size 3 i0 (.int .i64 0) 1 8 und64i hi hz0 hz1 hz2 rfl (by decide) _ _ _ rfl ((World.ownsRow_lit wr #[.int .i64 lx] 1 (Nat.le_refl _) (by unfold maxLen; omega) rfl)) ⟨g, o, none⟩ nR cc (vals (dl R nR)) rfl (vals_len _ _) HSRC.out (vals_one _ _) (by unfold maxLen; omega) (by omega) (by simp) ?_)
        intro v' w3 hown hgrow hnil _
        have hown2 : w3.ownsRow wr.heap.size 3 1 v' (nR + 1) (vals (dl V (nR + 1))) := by
          rw [HVC.out, Nat.add_comm nR 1]
          exact hown
        obtain ⟨g3, c3, hv3, hc3, hg3, hg3', hrow3⟩ := own_place hown2 hnil
        subst hv3
        have hb3 : Below wr.heap.size wr w3 := ((Below.refl wr.heap.size wr).alloc (Nat.le_refl _) _).grown hgrow (by simp) (fun b hb => by
          have : wr.heap.size = b := by simpa [Value.ownBlock] using hb
          omega)
        have TR := Lib.hid (rtrim_any (some ⟨g3, 0, none⟩) (nR + 1) c3 V w3 hV0 HLC.out hc3 (by omega) hrow3.row)
        have hnV : Ten.nl V ≤ nR + 1 := Ten.nl_le HLC.out
        have HR0 : Hid (RowP w3 g3 0 (Ten.nl V) V) := Lib.hid ⟨hrow3.1, fun i hi => hrow3.2 i (by omega)⟩
        have HCV : Hid (Ten.nl V ≤ c3) := Lib.hid (by omega)
        have HOWN := Lib.hid (below_own HQ.out.own hb3)
        have HQL : Hid (∀ b, u17.ownBlock = some b → b < wr.heap.size) := Lib.hid (fun b hb => (HQ.out.own.lt b hb).2)
        have HBW := Lib.hid (HQ.out.below.trans (hb3.mono hws2))
        have HWO := Lib.hid hws2
        obtain ⟨H, hH⟩ : ∃ H, H = wr.heap.size := ⟨_, rfl⟩
        rw [← hH] at HQL HWO hg3
        clear hown hown2 hgrow hnil hrow3 hb3 hws2 HSRC HRR HCC hH HVC HLC HQ cX hnV hc3
        go_wp2_with fail
        (with_reducible refine Calls.mono TR.out ?_)
        rintro e w' ⟨rfl, rfl⟩
        go_wp2_with fail
        obtain ⟨wo, hwo⟩ : ∃ wo : World, wo = wr := ⟨_, rfl⟩
        clear hwo
        go_loopw [18, 20] (fun vr vk wi => ∃ (t g o c : Nat) (Z : Int), vk = .int .i64 t ∧ vr = .slice (some ⟨g, o, none⟩) (Ten.nl Z) c ∧ Hid (Z = V - t * Y) ∧ 0 ≤ Z ∧ Ten.nl Z ≤ c ∧ Hid (RowP wi g o (Ten.nl Z) Z) ∧ H ≤ g ∧ Below w3.heap.size w3 wi) (fun _ vk _ => (10 - intOf vk).toNat)
        case atStart => exact ⟨0, g3, 0, c3, V, rfl, rfl, Lib.hid (by simp), hV0, HCV.out, HR0, hg3, Below.refl _ _⟩
        case round =>
          clear HR0 TR
          obtain ⟨t, g4, o4, c4, Z, rfl, rfl, HZ, hZ0, hc4, HRZ, hHg, hbz⟩ := hrel
          have HBZ := Lib.hid hbz
          have hw34 := hbz.size
          have hZ9 : Z < 10 * Y := by
            have h1 := HZ.out
            have h2 : 0 ≤ (t : Int) * Y := Int.mul_nonneg (by omega) (Int.le_of_lt HY0.out)
            have h3 := HV9.out
            omega
          have hnZ : Ten.nl Z ≤ k + 1 := Ten.nl_le (by rw [Ten.bp_succ]; have := HYL.out; omega)
          obtain ⟨nZ, hnZe⟩ : ∃ nZ, nZ = Ten.nl Z := ⟨_, rfl⟩
          rw [← hnZe] at HRZ hnZ hc4 ⊢
          have HNZ := Lib.hid hnZe
          have HRY := Lib.hid (R2.out.below ((HBW.out.mono (Nat.le_refl _)).trans (HBZ.out.mono HBW.out.size)))
          have SZ := Lib.hid (rsize_any (some ⟨g4, o4, none⟩) (some ⟨g2, o2, none⟩) nZ c4 k c2 Z Y wr hZ0 (Int.le_of_lt HY0.out) HNZ.out HN2.out (by omega) (by omega) HRZ.out.row HRY.out.row)
          clear hbz hnZe
          by_cases hZY : Z < Y
          · have hcm := cmp3_lt hZY
            rw [hcm] at SZ
            have hvt := quo_last (R := V) (Y := Y) (k := t) HY0.out (by rw [← HZ.out]; exact hZ0) (by rw [← HZ.out]; exact hZY)
            have HVT := Lib.hid hvt
            clear hcm hvt hZY hZ9
            go_wp2_with fail
            (with_reducible refine Calls.mono SZ.out ?_)
            rintro e w5 ⟨rfl, hb5⟩
            have hb35 : Below w3.heap.size w3 w5 := HBZ.out.trans (hb5.mono hw34)
            have HO5 := Lib.hid (below_own HOWN.out hb35)
            have HR5 := Lib.hid (HRZ.out.below hb5)
            have HW5 := Lib.hid (HBW.out.trans (hb35.mono HBW.out.size))
            have hsz : w2.heap.size ≤ w5.heap.size := HW5.out.size
            clear hb5 hb35 SZ
            go_wp2_with (at_builtin; refine wpList_append_at _ rfl _ _ 133 rfl w2.heap.size 3 i0 (.int .i64 0) 1 8 und64i hi hz0 hz1 hz2 rfl (by decide) _ _ _ rfl (HO5.out.alloc _) ⟨w5.heap.size, 0, none⟩ 1 1 [.int .i64 (t : Int)] rfl rfl (by
              intro q u hq
              match q, hq with
              | 0, hq => simp at hq; subst hq; simp [Addr.add]) (by intro u hu; simp at hu; subst hu; rfl) (by unfold maxLen; omega) (by omega) (by simp; omega) ?_)
            intro v7 w7 hown7 hgrow7 _ hat7
            have hltq : ∀ b, u17.ownBlock = some b → b < g4 := fun b hb => Nat.lt_of_lt_of_le (HQL.out b hb) hHg
            have Q7 : QR w2 w7 X Y S v7 (.slice (some ⟨g4, o4, none⟩) nZ c4) ((j : Int) - 1) j g4 o4 c4 Z := by
              refine ⟨by omega, rfl, ?_, by rw [HNZ.out], by rw [← HNZ.out]; exact hc4, ?_, ?_, ?_, ?_⟩
              · rw [HZ.out, HVT.out.2, HQM.out]
              · rw [← HNZ.out]
                exact (HR5.out.below ((Below.refl w5.heap.size w5).alloc (Nat.le_refl _) _)).grown hgrow7 (fun e => by have := hltq _ e; omega)
              · have e : S - j = S - (j + 1) + 1 := by omega
                rw [e, hiD_succ, show S - 1 - (S - (j + 1)) = j by omega, ← HQD.out, ← HVT.out.1]
                exact hown7
              · intro e
                rcases hat7 _ e with h | h
                · have := hltq _ h; omega
                · have := HR5.out.1; omega
              · exact (HW5.out.alloc hsz _).grown hgrow7 (by simp; omega) (fun b hb => (HO5.out.lt b hb).1)
            have Q7H := Lib.hid Q7
            clear Q7 hown7 hgrow7 hat7 hltq
            go_wp2
            go_roundw
            case rel => exact ⟨_, _, _, _, _, _, rfl, Q7H.out⟩
            case measure => simp [intOf] <;> omega
          · have hcm : 0 ≤ cmp3 Z Y := by unfold cmp3; rw [if_neg hZY]; split <;> omega
            obtain ⟨cv, hcv⟩ : ∃ cv, cv = cmp3 Z Y := ⟨_, rfl⟩
            rw [← hcv] at SZ hcm
            have ht9 : t < 9 := by
              have h1 := HZ.out
              have h2 := HV9.out
              have h3 : (t : Int) * Y < 9 * Y := by omega
              have := Int.lt_of_mul_lt_mul_right h3 (Int.le_of_lt HY0.out)
              omega
            have hZZ : 0 ≤ Z - Y := by omega
            have HYZ := Lib.hid (show Y ≤ Z by omega)
            have HNL : Hid (Z < Ten.bp nZ) := Lib.hid (by rw [HNZ.out]; exact Ten.nl_lt hZ0)
            have hnZ1 : 0 < nZ := by rw [HNZ.out]; exact Ten.nl_pos (by have := HY0.out; omega)
            have HZN : Hid (Z - Y = V - ((t + 1 : Nat) : Int) * Y) := Lib.hid (by rw [HZ.out, Int.natCast_add, Int.add_mul]; omega)
            clear hcv hZY hZ9
            go_wp2_with fail
            (with_reducible refine Calls.mono SZ.out ?_)
            rintro e w5 ⟨rfl, hb5⟩
            have HB5 := Lib.hid hb5
            clear hb5
            go_wp2_with fail
            (with_reducible refine Calls.mono (rdiff_any (some ⟨g4, o4, none⟩) (some ⟨g2, o2, none⟩) nZ c4 k c2 Z Y w5 hZ0 HNL.out (Int.le_of_lt HY0.out) HYL.out HYZ.out (by omega) (by omega) (HRZ.out.below HB5.out).row (HRY.out.below HB5.out).row) ?_)
            rintro e w6 ⟨a6, c6, rfl, hc6, _, hr6, hb6, hp6⟩
            obtain ⟨g6, o6, ha6, hg6, hg6'⟩ := hp6 hnZ1
            subst ha6
            have HB6 := Lib.hid hb6
            have HBE := Lib.hid (HBZ.out.trans ((HB5.out.trans (hb6.mono HB5.out.size)).mono hw34))
            have hHw : H ≤ g6 := by
              have h1 := HB5.out.size
              have h2 := HRZ.out.1
              omega
            have HR6 := Lib.hid (RowP.of hr6 hg6')
            clear hb6 hp6 hr6
            go_wp2
            go_roundw
            case rel => exact ⟨t + 1, g6, o6, c6, Z - Y, by go_num, rfl, HZN, hZZ, hc6, HR6, hHw, HBE.out⟩
            case measure => simp [intOf]; omega
theorem rquo_any (x y : Int) (w : World) (hx : dn x ≤ 40000) (hy : dn y ≤ 40000) (h0 : y ≠ 0) :
    Calls Tryz.prog 153 #[.string (tx x), .string (tx y)] w (GivesQQ (tx (x.fdiv y)) (tx (x.fmod y)) w) := by
  by_cases h : dn x ≤ 9 ∧ dn y ≤ 9
  · exact rquo_short x y w h.1 h.2 h0
  · exact rquo_long x y w hx hy h0 h
end Go.Proofs.YtkhebidmfjbhaaaGreatDoor
namespace Go.Proofs.YtkhebidmfjbhaaaGreatDoor
open Go.RowKit

/-- What holds at the head of Euclid's loop. -/
structure ER (x y u v : Int) (gk : Nat) : Prop where
  u0 : 0 ≤ u
  v0 : 0 ≤ v
  gcd : (Int.gcd u v : Int) = Int.gcd x y
  du : dn u ≤ 40000
  dv : dn v ≤ 40000
  gk : v.toNat ≤ gk
theorem ER.next {x y u v : Int} {gk : Nat} (h : ER x y u v gk) (hv : v ≠ 0) : ER x y v (u.fmod v) (u.fmod v).toNat ∧ (u.fmod v).toNat < gk := by
  have h1 := h.v0
  have e : u.fmod v = u % v := Int.fmod_eq_emod_of_nonneg _ h.v0
  have h2 : 0 ≤ u % v := Int.emod_nonneg _ hv
  have h3 : u % v < v := Int.emod_lt_of_pos _ (by omega)
  have h4 := h.gk
  rw [e]
  exact ⟨⟨h.v0, h2, by rw [gcd_emod]; exact h.gcd, h.dv, Nat.le_trans (dnabs_le (by omega)) h.dv, Nat.le_refl _⟩, by omega⟩
set_option maxHeartbeats 1000000 in
theorem rdivisor_any (x y : Int) (w : World) (hx : dn x ≤ 40000) (hy : dn y ≤ 40000) :
    Calls Tryz.prog 144 #[.string (tx x), .string (tx y)] w (GivesY (tx (Int.gcd x y : Int)) w) := by
  have PX := Lib.hid (fun W => rpos_any x W (by omega))
  have PY := Lib.hid (fun W => rpos_any y W (by omega))
  have E0 : Hid (ER x y x.natAbs y.natAbs y.natAbs) := Lib.hid ⟨by omega, by omega, by unfold Int.gcd; simp, by rw [dn_abs]; exact hx, by rw [dn_abs]; exact hy, by omega⟩
  obtain ⟨A, hA⟩ : ∃ T, T = tx x := ⟨_, rfl⟩
  obtain ⟨B, hB⟩ : ∃ T, T = tx y := ⟨_, rfl⟩
  obtain ⟨U, hU⟩ : ∃ T, T = tx (x.natAbs : Int) := ⟨_, rfl⟩
  obtain ⟨V, hV⟩ : ∃ T, T = tx (y.natAbs : Int) := ⟨_, rfl⟩
  rw [← hA, ← hU] at PX
  rw [← hB, ← hV] at PY
  rw [← hA, ← hB]
  have HU := Lib.hid hU
  have HV := Lib.hid hV
  clear hA hB hU hV hx hy
  go_enter Tryz.func144, Tryz.ntmps144
  go_wp2_with fail
  (with_reducible refine Calls.mono (PX.out _) ?_)
  rintro e w1 ⟨rfl, hb⟩
  have B1 := Lib.hid hb
  clear hb
  go_wp2_with fail
  (with_reducible refine Calls.mono (PY.out _) ?_)
  rintro e w2 ⟨rfl, hb⟩
  have B2 := Lib.hid (B1.out.trans (hb.mono B1.out.size))
  clear hb
  go_wp2_with fail
  go_loopg [5, 6] y.natAbs (fun gk vu vv wr => ∃ (u v : Int) (U V : ByteArray), vu = .string U ∧ vv = .string V ∧ Hid (U = tx u) ∧ Hid (V = tx v) ∧ Hid (ER x y u v gk) ∧ Below w.heap.size w wr)
  case atStart => exact ⟨_, _, U, V, rfl, rfl, HU, HV, E0, B2.out⟩
  case round =>
    clear HU HV E0 B1 B2
    obtain ⟨u, v, U', V', rfl, rfl, HU, HV, HE, hb⟩ := hrel
    have BE := Lib.hid hb
    have hzt := tx_zero_test v
    rw [← HV.out] at hzt
    clear hb
    by_cases hv : v = 0
    · rw [decide_eq_true hv] at hzt
      have hzn : (V'.toList != [48]) = false := by unfold bne; rw [hzt]; rfl
      have hr : U' = tx (Int.gcd x y : Int) := by
        have h1 := HE.out.gcd
        have h2 := HE.out.u0
        rw [hv, Int.gcd_zero_right] at h1
        rw [HU.out, ← h1]
        congr 1
        omega
      have HR := Lib.hid hr
      clear hv hr
      go_wp2
      go_ret
      exact ⟨ret_s HR.out, BE.out⟩
    · rw [decide_eq_false hv] at hzt
      have hzn : (V'.toList != [48]) = true := by unfold bne; rw [hzt]; rfl
      have QU := Lib.hid (fun W => rquo_any u v W HE.out.du HE.out.dv hv)
      rw [← HU.out, ← HV.out] at QU
      have HN := Lib.hid (HE.out.next hv)
      obtain ⟨Q, hQ⟩ : ∃ T, T = tx (u.fdiv v) := ⟨_, rfl⟩
      obtain ⟨R, hR⟩ : ∃ T, T = tx (u.fmod v) := ⟨_, rfl⟩
      rw [← hQ, ← hR] at QU
      have HR := Lib.hid hR
      clear hv hQ hR
      go_wp2_with fail
      (with_reducible refine Calls.mono (QU.out _) ?_)
      rintro e w3 ⟨rfl, hb⟩
      have B3 := Lib.hid (BE.out.trans (hb.mono BE.out.size))
      clear hb
      go_wp2
      go_roundg (u.fmod v).toNat
      case measure => exact HN.out.2
      case rel => exact ⟨v, u.fmod v, _, _, rfl, rfl, HV, HR, Lib.hid HN.out.1, B3.out⟩
end Go.Proofs.YtkhebidmfjbhaaaGreatDoor
namespace Go.Proofs.YtkhebidmfjbhaaaGreatDoor
open Go.RowKit

set_option maxHeartbeats 2000000 in
set_option maxRecDepth 100000 in
theorem fit_any (s : ByteArray) (most : Nat) (w : World) (hs : s.size ≤ 9223372036854775807) (h1 : 1 ≤ most) (h2 : most ≤ 1000) :
    Calls Tryz.prog 128 #[.string s, .int .i64 most] w (fun e w' => ∃ z, dn z ≤ most ∧ GivesY (tx z) w e w') := by
  obtain ⟨i0, hi, hz0, hz1, hz2⟩ := info_parts infoI64
  have hown0 : w.ownsRow w.heap.size 3 1 (.slice none 0 0) ([] : List Nat).length (vals []) := World.ownsRow_nil _ _ _ _
  go_enter Tryz.func128, Tryz.ntmps128
  go_wp2_with fail
  go_loopw [5, 6] (fun v i wr => ∃ (j : Nat) (l : List Nat), j ≤ s.size ∧ i = .int .i64 j ∧ Hid (∀ d, d ∈ l → d < 10) ∧ l.length ≤ most ∧ wr.ownsRow w.heap.size 3 1 v l.length (vals l) ∧ Below w.heap.size w wr) (fun _ i _ => s.size - (intOf i).toNat)
  case atStart => exact ⟨0, [], by omega, rfl, Lib.hid (fun d hd => by cases hd), by simp, hown0, Below.refl _ _⟩
  case round =>
    clear hown0
    obtain ⟨j, l, hj, rfl, HD, hl, hown, hb⟩ := hrel
    have hws := hb.size
    obtain ⟨n, hn⟩ : ∃ n, n = l.length := ⟨_, rfl⟩
    have HN := Lib.hid hn
    obtain ⟨a, c, hv, hc, hrow⟩ := rowD_of_own hown HD.out
    subst hv
    rw [← hn] at hown hl hc hrow ⊢
    have HR := Lib.hid hrow
    have hTX : ∃ (F : Bool → ByteArray) (Z : Bool → Int), ∀ b, F b = tx (Z b) ∧ dn (Z b) ≤ most ∧ Calls Tryz.prog 146 #[.bool b, .slice a n c] wr (GivesY (F b) wr) := by
      obtain ⟨z0, z1⟩ := dv_bd l HD.out
      rw [← hn] at z1
      refine ⟨fun b => tx (if b = true then -dv l else dv l), fun b => if b = true then -dv l else dv l, fun b => ⟨rfl, ?_, rtext_any b a n c (dv l) wr z0 z1 hc (by omega) hrow⟩⟩
      have h3 : dn (dv l) ≤ most := dn_le z0 h1 (Int.lt_of_lt_of_le z1 (Ten.bp_mono hl))
      show dn (if b = true then -dv l else dv l) ≤ most
      split
      · rw [dn_neg]; exact h3
      · exact h3
    obtain ⟨F, Z, hTX⟩ := hTX
    have TX := Lib.hid hTX
    clear hn hrow hTX
    by_cases hlt : j < s.size
    · by_cases hln : n < most
      · by_cases hlo : 48 ≤ ((s[j]'hlt).toNat : Int)
        · by_cases hhi : ((s[j]'hlt).toNat : Int) ≤ 57
          · have HS := Lib.hid (vals_snoc l ((s[j]'hlt).toNat - 48))
            have hdd : ((s[j]'hlt).toNat : Int) - 48 = (((s[j]'hlt).toNat - 48 : Nat) : Int) := by omega
            have HDD := Lib.hid hdd
            have HD2 : Hid (∀ d, d ∈ l ++ [(s[j]'hlt).toNat - 48] → d < 10) := Lib.hid (fun d hd => by
              rcases List.mem_append.1 hd with h | h
              · exact HD.out d h
              · simp at h; omega)
            clear hdd
            go_wp2_with (at_builtin; refine wpList_append_own _ rfl _ _ 133 rfl w.heap.size 3 i0 (.int .i64 0) 1 8 und64i hi hz0 hz1 hz2 rfl (by decide) _ _ _ rfl (hown.alloc _) ⟨wr.heap.size, 0, none⟩ 1 1 [.int .i64 (((s[j]'hlt).toNat : Int) - 48)] rfl rfl ?c1 ?c2 ?c3 ?c4 ?c5 ?_)
            case c1 =>
              intro k u hk
              match k, hk with
              | 0, hk => simp at hk; subst hk; simp [Addr.add]
            case c2 => intro u hu; simp at hu; subst hu; rfl
            case c3 => unfold maxLen; omega
            case c4 => omega
            case c5 => simp; omega
            · intro v' w1 hown' hgrow _
              have R1 : w1.ownsRow w.heap.size 3 1 v' (l ++ [(s[j]'hlt).toNat - 48]).length (vals (l ++ [(s[j]'hlt).toNat - 48])) := by
                rw [HS.out, ← HDD.out, List.length_append, ← HN.out]
                exact hown'
              have R2 : Below w.heap.size w w1 := (hb.alloc hb.size _).grown hgrow (by simp; omega) (own8_ge hown)
              have R3 : (l ++ [(s[j]'hlt).toNat - 48]).length ≤ most := by rw [List.length_append, ← HN.out]; simp; omega
              clear hown' hgrow hown hb
              go_wp2
              go_roundw
              case rel => exact ⟨j + 1, _, by omega, by go_num, HD2, R3, R1, R2⟩
              case measure => simp [intOf] <;> omega
          · go_wp2
            go_roundw
            case rel => exact ⟨j + 1, l, by omega, by go_num, HD, by rw [← HN.out]; omega, by rw [← HN.out]; exact hown, hb⟩
            case measure => simp [intOf] <;> omega
        · go_wp2
          go_roundw
          case rel => exact ⟨j + 1, l, by omega, by go_num, HD, by rw [← HN.out]; omega, by rw [← HN.out]; exact hown, hb⟩
          case measure => simp [intOf] <;> omega
      · have HB := Lib.hid hb
        clear hown hb
        by_cases hse : 0 < s.size
        · have hsz : (0 : Int) < (s.size : Int) := by omega
          go_wp2_with (go_at_call 146; refine Calls.mono (TX.out _).2.2 ?_; rintro e w1 ⟨rfl, hb1⟩)
          go_ret
          exact ⟨Z _, (TX.out _).2.1, congrArg (fun s => Ending.returned (.string s)) (TX.out _).1, HB.out.trans (hb1.mono hws)⟩
        · have hsz : ¬ (0 : Int) < (s.size : Int) := by omega
          go_wp2_with (go_at_call 146; refine Calls.mono (TX.out _).2.2 ?_; rintro e w1 ⟨rfl, hb1⟩)
          go_ret
          exact ⟨Z _, (TX.out _).2.1, congrArg (fun s => Ending.returned (.string s)) (TX.out _).1, HB.out.trans (hb1.mono hws)⟩
    · have HB := Lib.hid hb
      clear hown hb
      by_cases hse : 0 < s.size
      · have hsz : (0 : Int) < (s.size : Int) := by omega
        go_wp2_with (go_at_call 146; refine Calls.mono (TX.out _).2.2 ?_; rintro e w1 ⟨rfl, hb1⟩)
        go_ret
        exact ⟨Z _, (TX.out _).2.1, congrArg (fun s => Ending.returned (.string s)) (TX.out _).1, HB.out.trans (hb1.mono hws)⟩
      · have hsz : ¬ (0 : Int) < (s.size : Int) := by omega
        go_wp2_with (go_at_call 146; refine Calls.mono (TX.out _).2.2 ?_; rintro e w1 ⟨rfl, hb1⟩)
        go_ret
        exact ⟨Z _, (TX.out _).2.1, congrArg (fun s => Ending.returned (.string s)) (TX.out _).1, HB.out.trans (hb1.mono hws)⟩
end Go.Proofs.YtkhebidmfjbhaaaGreatDoor
