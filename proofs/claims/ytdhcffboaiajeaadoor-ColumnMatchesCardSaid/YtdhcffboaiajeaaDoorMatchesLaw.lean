/-
  ColumnMatches returns true.
-/
import Derived.Test.YtdhcffboaiajeaaDoorRLong
import Derived.Test.YtdhcffboaiajeaaDoorAwake
import Derived.Test.YtdhcffboaiajeaaDoorCopy
namespace Go.Proofs.YtdhcffboaiajeaaDoor
open Go.RowKit M

theorem rowF {w : World} {B : Nat} {e : TypeId} {z n : Nat} {v : Value} {xs : List Value} (h : w.ownsRow B e z v n xs) : ∃ a c, v = .slice a n c := by
  rcases h.2 with ⟨rfl, hn⟩ | ⟨g, cap, cur, rfl, -⟩
  · exact ⟨none, 0, by rw [hn]⟩
  · exact ⟨_, cap, rfl⟩
theorem rowB {w w' : World} {B : Nat} {e : TypeId} {z n : Nat} {v : Value} {xs : List Value} (h : w.ownsRow B e z v n xs) (hb : Below w.heap.size w w') : w'.ownsRow B e z v n xs :=
  h.kept (below_none hb) (by cases v.ownBlock <;> simp)
theorem same_true (va vb : Value) (c : List Tm) (w : World) (ha : TermsV w va c) (hb : TermsV w vb c) : Calls Tryd.prog 25 #[va, vb] w fun e w' => e = .returned (.bool true) ∧ ∃ m, w' = w.drewN m := by
  have h := same_any va vb c c w ha hb
  rwa [decide_eq_true rfl] at h
set_option maxHeartbeats 8000000 in
set_option maxRecDepth 100000 in
theorem matchesLaw (p : Int) (va vb : Value) (k row : Int) (a b : List Tm) (w : World) (tb : Tab w) (ha : TermsV w va a) (hb : TermsV w vb b) : Calls Tryd.prog 3 #[.int .i64 p, va, vb, .int .i64 k, .int .i64 row] w fun e w' => e = .returned (.bool true) ∧ Below w.heap.size w w' := by
  obtain ⟨fa, na, rfl⟩ := tform ha
  obtain ⟨fb, nb, rfl⟩ := tform hb
  have T := Lib.hid tb
  have TT := Lib.hid (fun W (hb : Below w.heap.size w W) => T.out.on hb)
  have AW := Lib.hid (fun W (hb : Below w.heap.size w W) => awake_true W (TT.out W hb))
  obtain ⟨W1, hW1⟩ : ∃ W1, W1 = w.alloc (.cells #[.slice fa a.length na, .slice fb b.length nb] 22) := ⟨_, rfl⟩
  have B1 : Below w.heap.size w W1 := by rw [hW1]; exact (Below.refl _ w).alloc (Nat.le_refl _) _
  have LO := Lib.hid (long_any (.slice (some ⟨w.heap.size, 0, none⟩) 2 2) [a, b] W1 (by rw [hW1]; exact laidL2 w (.slice fa a.length na) (.slice fb b.length nb) a b _ ha hb))
  have HB1 := Lib.hid B1
  have HA := Lib.hid ha
  have HB := Lib.hid hb
  clear tb ha hb B1
  cases hq : lng [a, b] with
  | true =>
    rw [hq] at LO
    clear hq
    go_enter Tryd.func3, Tryd.ntmps3
    go_wp2_with fail
    rw [← hW1]
    clear hW1
    refine Calls.mono LO.out ?_
    rintro e w' ⟨rfl, rfl⟩
    go_wp2_with fail
    refine Calls.mono (AW.out _ HB1.out) ?_
    rintro e w2 ⟨rfl, b2⟩
    have B2 := Lib.hid (HB1.out.trans (b2.mono HB1.out.size))
    clear b2
    go_wp2
    go_ret
    exact ⟨rfl, B2.out⟩
  | false =>
    obtain ⟨-, hlen⟩ := lng_false hq
    have hla := hlen a (by simp)
    have hlb := hlen b (by simp)
    rw [hq] at LO
    have CP := Lib.hid (copy_any (.slice fa a.length na) a W1 (HA.out.below HB1.out) (by omega))
    clear hq hlen
    go_enter Tryd.func3, Tryd.ntmps3
    go_wp2_with fail
    rw [← hW1]
    clear hW1
    refine Calls.mono LO.out ?_
    rintro e w' ⟨rfl, rfl⟩
    go_wp2_with fail
    refine Calls.mono CP.out ?_
    rintro e w2 ⟨v2, rfl, h2, -, b2⟩
    have B2 := Lib.hid (HB1.out.trans (b2.mono HB1.out.size))
    have H2 := Lib.hid h2
    have CQ := Lib.hid (copy_any (.slice fb b.length nb) b w2 (HB.out.below B2.out) (by omega))
    clear h2 b2 CP LO
    go_wp2_with fail
    refine Calls.mono CQ.out ?_
    rintro e w3 ⟨v3, rfl, h3, -, b3⟩
    have B3 := Lib.hid (B2.out.trans (b3.mono B2.out.size))
    have H3 := Lib.hid h3
    have H23 := Lib.hid (H2.out.below b3)
    have HA3 := Lib.hid (HA.out.below B3.out)
    have HB3 := Lib.hid (HB.out.below B3.out)
    have L1 := Lib.hid (low_any (.slice fa a.length na) a w3 HA3.out)
    have L2 := Lib.hid (rlow_any (.slice fa a.length na) a w3 HA3.out)
    have C1 := Lib.hid (check_any p v2 a w3 (TT.out _ B3.out) H23.out)
    have C2 := Lib.hid (fun W (h : Below w3.heap.size w3 W) => rcheck_any p (.slice fa a.length na) a W (HA3.out.below h))
    have O1 := Lib.hid (fun W (h : Below w3.heap.size w3 W) => coef_any (.slice fa a.length na) a row W (HA3.out.below h))
    have O2 := Lib.hid (fun W (h : Below w3.heap.size w3 W) => rcoef_any (.slice fa a.length na) a row W (HA3.out.below h))
    obtain ⟨lo, hlo⟩ : ∃ lo, lo = low a := ⟨_, rfl⟩
    obtain ⟨bb, hbb⟩ : ∃ bb, bb = decide (a ≠ []) := ⟨_, rfl⟩
    obtain ⟨ck, hck⟩ : ∃ ck, ck = chk p a := ⟨_, rfl⟩
    obtain ⟨cf, hcf⟩ : ∃ cf, cf = co a row := ⟨_, rfl⟩
    rw [← hlo, ← hbb] at L1 L2
    rw [← hck] at C1 C2
    rw [← hcf] at O1 O2
    clear h3 b3 CQ H2 hlo hbb hck hcf
    go_wp2_with fail
    refine Calls.mono L1.out ?_
    rintro e w' ⟨rfl, rfl⟩
    go_wp2_with fail
    refine Calls.mono L2.out ?_
    rintro e w' ⟨rfl, rfl⟩
    go_wp2_with fail
    refine Calls.mono C1.out ?_
    rintro e w4 ⟨rfl, b4⟩
    have HB4 := Lib.hid b4
    clear b4 C1 L1 L2
    go_wp2_with fail
    refine Calls.mono (C2.out _ HB4.out) ?_
    rintro e w' ⟨rfl, rfl⟩
    have hbb : (bb == bb) = true := beq_self_eq_true _
    go_wp2_with fail
    refine Calls.mono (O1.out _ HB4.out) ?_
    rintro e w5 ⟨rfl, b5⟩
    have HB5 := Lib.hid (HB4.out.trans (b5.mono HB4.out.size))
    clear b5 O1
    go_wp2_with fail
    refine Calls.mono (O2.out _ HB5.out) ?_
    rintro e w' ⟨rfl, rfl⟩
    have G3 := Lib.hid (show (TermsV w3 v2 a ∧ TermsV w3 v3 b) ∧ TermsV w3 (.slice fa a.length na) a ∧ TermsV w3 (.slice fb b.length nb) b from ⟨⟨H23.out, H3.out⟩, HA3.out, HB3.out⟩)
    clear O2 C2 H23 H3 HA3 HB3
    go_wp2
    go_loopw [17] (fun r wr => ∃ n : Nat, n ≤ 2 ∧ r = .int .i64 n ∧ Below w3.heap.size w3 wr) (fun r _ => 2 - (intOf r).toNat)
    case atStart => exact ⟨0, by omega, rfl, HB5.out⟩
    case round =>
      obtain ⟨n, hn, rfl, hB⟩ := hrel
      have HBr := Lib.hid hB
      have Br := Lib.hid (B3.out.trans (hB.mono B3.out.size))
      rename World => wm
      clear hB
      by_cases hn2 : n < 2
      · have hn3 : (n : Int) < 2 := by omega
        have AD := Lib.hid (add_own p k v2 v3 a b wm (TT.out _ Br.out) (G3.out.1.1.below HBr.out) (G3.out.1.2.below HBr.out))
        have RA := Lib.hid (fun W (h : Below wm.heap.size wm W) => radd_any p k (.slice fa a.length na) (.slice fb b.length nb) a b W ((G3.out.2.1.below HBr.out).below h) ((G3.out.2.2.below HBr.out).below h))
        have SC := Lib.hid (fun W (h : Below wm.heap.size wm W) => scale_own p k v2 a W (TT.out _ (Br.out.trans (h.mono Br.out.size))) ((G3.out.1.1.below HBr.out).below h))
        have RS := Lib.hid (fun W (h : Below wm.heap.size wm W) => rscale_any p k (.slice fa a.length na) a W ((G3.out.2.1.below HBr.out).below h))
        obtain ⟨C, hC⟩ : ∃ C, C = (if chk2 p a b = 0 then pls p a k b else []) := ⟨_, rfl⟩
        obtain ⟨E, hE⟩ : ∃ E, E = chk2 p a b := ⟨_, rfl⟩
        obtain ⟨D, hD⟩ : ∃ D, D = (if chk p a = 0 then pls p [] k a else []) := ⟨_, rfl⟩
        obtain ⟨F, hF⟩ : ∃ F, F = chk p a := ⟨_, rfl⟩
        rw [← hC, ← hE] at AD RA
        rw [← hD, ← hF] at SC RS
        have hCl : C.length ≤ 1024 := by
          rw [hC]
          split
          · rename_i h0
            exact col_len (pls_col (chk2_zero.1 h0).1 _ _ _)
          · simp
        have hDl : D.length ≤ 1024 := by
          rw [hD]
          split
          · rename_i h0
            exact col_len (pls_col (chk_zero.1 h0).1 _ _ _)
          · simp
        clear hC hE hD hF
        go_wp2_with fail
        refine Calls.mono AD.out ?_
        rintro e w6 ⟨v6, rfl, h6, b6⟩
        obtain ⟨a6, n6, rfl⟩ := rowF h6
        have HX := Lib.hid h6
        have M6 := Lib.hid b6
        clear h6 b6 AD
        go_wp2_with fail
        refine Calls.mono (RA.out _ M6.out) ?_
        rintro e w7 ⟨v7, rfl, h7, -, b7⟩
        have M7 := Lib.hid (M6.out.trans (b7.mono M6.out.size))
        have HX7 := Lib.hid (rowB HX.out b7)
        have HY := Lib.hid h7
        have hs67 : w6.heap.size ≤ w7.heap.size := b7.size
        clear h7 b7 RA
        go_wp2_with fail
        refine Calls.mono (SC.out _ M7.out) ?_
        rintro e w8 ⟨v8, rfl, h8, b8⟩
        obtain ⟨a8, n8, rfl⟩ := rowF h8
        have M8 := Lib.hid (M7.out.trans (b8.mono M7.out.size))
        have HX8 := Lib.hid (rowB HX7.out b8)
        have HY8 := Lib.hid (HY.out.below b8)
        have HZ := Lib.hid h8
        clear h8 b8 SC HX7 HY
        go_wp2_with fail
        refine Calls.mono (RS.out _ M8.out) ?_
        rintro e w9 ⟨v9, rfl, h9, -, b9⟩
        have M9 := Lib.hid (M8.out.trans (b9.mono M8.out.size))
        have HX9 := Lib.hid (rowB HX8.out b9)
        have HZ9 := Lib.hid (rowB HZ.out b9)
        have SA := Lib.hid (same_true _ v7 C w9 (TermsV.own HX9.out) (HY8.out.below b9))
        have SB := Lib.hid (fun W (h : Below w9.heap.size w9 W) => same_true _ v9 D W ((TermsV.own HZ9.out).below h) (h9.below h))
        have hne : (Value.slice a8 D.length n8).ownBlock = none ∨ (Value.slice a8 D.length n8).ownBlock ≠ (Value.slice a6 C.length n6).ownBlock := by
          cases hh : (Value.slice a8 D.length n8).ownBlock with
          | none => exact .inl rfl
          | some g =>
            refine .inr (fun e => ?_)
            have h1 := (HZ.out.lt g hh).1
            have h2 := (HX.out.lt g e.symm).2
            omega
        have HNE := Lib.hid hne
        clear h9 b9 RS HX8 HY8 hne HX HZ
        go_wp2_with fail
        refine Calls.mono SA.out ?_
        rintro e w10 ⟨rfl, m10, hm10⟩
        have b10 : Below w9.heap.size w9 w10 := by rw [hm10]; exact below_drewN (Below.refl _ _) _
        have HB10 := Lib.hid b10
        clear hm10 b10 SA
        have SBx := Lib.hid (SB.out _ HB10.out)
        go_wp2_with fail
        refine Calls.mono SBx.out ?_
        rintro e w11 ⟨rfl, m11, hm11⟩
        have b11 : Below w9.heap.size w9 w11 := by rw [hm11]; exact below_drewN HB10.out _
        have M11 := Lib.hid (M9.out.trans (b11.mono M9.out.size))
        have HX11 := Lib.hid (rowB HX9.out b11)
        have HZ11 := Lib.hid (rowB HZ9.out b11)
        clear hm11 b11 SB SBx HX9 HZ9 HB10
        go_wp2
        go_loopw [26] (fun i wr => ∃ j : Nat, j ≤ C.length ∧ i = .int .i64 j ∧ OW w11 wr wm.heap.size (.slice a6 C.length n6) C.length) (fun i _ => C.length - (intOf i).toNat)
        case atStart => exact ⟨0, Nat.zero_le _, rfl, ⟨_, HX11.out⟩, World.grownBy.refl _ _⟩
        case round =>
          obtain ⟨j, hj, rfl, hO⟩ := hrel
          by_cases hjl : j < C.length
          · have hjl2 : (j : Int) < C.length := by omega
            obtain ⟨gx, cx, hgx, -, -⟩ := World.ownsRow.form hO.row.choose_spec (by omega)
            injection hgx with e1 e2 e3
            subst e1 e3
            clear e2
            obtain ⟨y0, y1, c0, c1, f0, -⟩ := hO.cells hjl
            have f1 := f0 (j * 2)
            have f2 := f0 (j * 2 + 1)
            have HO := Lib.hid hO
            clear hO f0
            go_wp2
            exact ⟨⟨j + 1, by omega, by go_num, HO.out.step _ _ _ _⟩, by simp [intOf]; omega⟩
          · have hO6 := hO
            obtain ⟨xs6, hr6⟩ := hO.row
            have HZ12 := Lib.hid (HZ11.out.kept hO.gr HNE.out)
            have hb6 : ∀ g, (Value.slice a6 C.length n6).ownBlock = some g → wm.heap.size ≤ g := fun g e => (hr6.lt g e).1
            have M12 := Lib.hid (M11.out.grown hO.gr M11.out.size hb6)
            rename World => w12
            clear hO hO6 hr6 hb6 hj
            go_wp2
            go_loopw [27] (fun i wr => ∃ j : Nat, j ≤ D.length ∧ i = .int .i64 j ∧ OW w12 wr w7.heap.size (.slice a8 D.length n8) D.length) (fun i _ => D.length - (intOf i).toNat)
            case atStart => exact ⟨0, Nat.zero_le _, rfl, ⟨_, HZ12.out⟩, World.grownBy.refl _ _⟩
            case round =>
              obtain ⟨j2, hj2, rfl, hO⟩ := hrel
              by_cases hjl2 : j2 < D.length
              · have hjl3 : (j2 : Int) < D.length := by omega
                obtain ⟨gx, cx, hgx, -, -⟩ := World.ownsRow.form hO.row.choose_spec (by omega)
                injection hgx with e1 e2 e3
                subst e1 e3
                clear e2
                obtain ⟨y0, y1, c0, c1, f0, -⟩ := hO.cells hjl2
                have f1 := f0 (j2 * 2)
                have f2 := f0 (j2 * 2 + 1)
                have HO := Lib.hid hO
                clear hO f0
                go_wp2
                exact ⟨⟨j2 + 1, by omega, by go_num, HO.out.step _ _ _ _⟩, by simp [intOf]; omega⟩
              · obtain ⟨xs8, hr8⟩ := hO.row
                have hs7 : wm.heap.size ≤ w7.heap.size := M7.out.size
                have hb8 : ∀ g, (Value.slice a8 D.length n8).ownBlock = some g → wm.heap.size ≤ g := fun g e => Nat.le_trans hs7 (hr8.lt g e).1
                have M13 := Lib.hid (M12.out.grown hO.gr M12.out.size hb8)
                clear hO hr8 hb8 hj2
                go_wp2
                exact ⟨⟨n + 1, by omega, by go_num, HBr.out.trans (M13.out.mono HBr.out.size)⟩, by simp [intOf]; omega⟩
      · have hn2' : n = 2 := by omega
        have hn3 : ¬ (n : Int) < 2 := by omega
        have DO := Lib.hid (dot_col p v2 v3 a b wm (TT.out _ Br.out) (G3.out.1.1.below HBr.out) (G3.out.1.2.below HBr.out))
        have DR := Lib.hid (fun W (h : Below wm.heap.size wm W) => rdot_any p (.slice fa a.length na) (.slice fb b.length nb) a b W ((G3.out.2.1.below HBr.out).below h) ((G3.out.2.2.below HBr.out).below h))
        have S1 := Lib.hid (fun W (h : Below wm.heap.size wm W) => same_true v2 (.slice fa a.length na) a W ((G3.out.1.1.below HBr.out).below h) ((G3.out.2.1.below HBr.out).below h))
        have S2 := Lib.hid (fun W (h : Below wm.heap.size wm W) => same_true v3 (.slice fb b.length nb) b W ((G3.out.1.2.below HBr.out).below h) ((G3.out.2.2.below HBr.out).below h))
        obtain ⟨dv, hdv⟩ : ∃ dv, dv = (if chk2 p a b = 0 then md p (dsum a b) else 0) := ⟨_, rfl⟩
        obtain ⟨de, hde⟩ : ∃ de, de = chk2 p a b := ⟨_, rfl⟩
        rw [← hdv, ← hde] at DO DR
        clear hdv hde hn hn2
        go_wp2_with fail
        refine Calls.mono DO.out ?_
        rintro e w6 ⟨rfl, b6⟩
        have M6 := Lib.hid b6
        clear b6 DO
        go_wp2_with fail
        refine Calls.mono (DR.out _ M6.out) ?_
        rintro e w7 ⟨rfl, b7⟩
        have M7 := Lib.hid (M6.out.trans (b7.mono M6.out.size))
        clear b7 DR
        go_wp2_with fail
        refine Calls.mono (S1.out _ M7.out) ?_
        rintro e w8 ⟨rfl, m8, hm8⟩
        have M8 := Lib.hid (show Below wm.heap.size wm w8 from by rw [hm8]; exact below_drewN M7.out _)
        clear hm8
        go_wp2_with fail
        refine Calls.mono (S2.out _ M8.out) ?_
        rintro e w9 ⟨rfl, m9, hm9⟩
        have M9 := Lib.hid (Br.out.trans ((show Below wm.heap.size wm w9 from by rw [hm9]; exact below_drewN M8.out _).mono Br.out.size))
        clear hm9
        go_wp2_with fail
        refine Calls.mono (AW.out _ M9.out) ?_
        rintro e w10 ⟨rfl, b10⟩
        have M10 := Lib.hid (M9.out.trans (b10.mono M9.out.size))
        clear b10
        go_wp2
        go_ret
        exact ⟨rfl, M10.out⟩
end Go.Proofs.YtdhcffboaiajeaaDoor
