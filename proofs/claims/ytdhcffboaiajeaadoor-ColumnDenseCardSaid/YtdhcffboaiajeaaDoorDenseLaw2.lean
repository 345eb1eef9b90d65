/-
  ColumnDense returns true: the walk.
-/
import Derived.Test.YtdhcffboaiajeaaDoorDenseLaw
namespace Go.Proofs.YtdhcffboaiajeaaDoor
open Go.RowKit M

set_option maxHeartbeats 8000000 in
set_option maxRecDepth 100000 in
theorem denseLaw (which : Int) (vc : Value) (more : Int) (v : Value) (c : List Tm) (l : List Int) (w : World) (tb : Tab w) (hm : (Lit.int .u8 more).wf = true) (hc : TermsV w vc c) (hl : IntsV w v l) : Calls Tryd.prog 10 #[.int .i64 which, vc, .int .u8 more, v] w fun e w' => e = .returned (.bool true) ∧ Below w.heap.size w w' := by
  have T := Lib.hid tb
  have TT := Lib.hid (fun W (hb : Below w.heap.size w W) => T.out.on hb)
  have AW := Lib.hid (fun W (hb : Below w.heap.size w W) => awake_true W (TT.out W hb))
  have hmb : 0 ≤ more ∧ more ≤ 255 := by
    simp [Lit.wf, IntKind.min, IntKind.max, IntKind.signed, IntKind.bits] at hm
    omega
  have hV := hl.ints
  obtain ⟨va, vn, rfl, i1, i2, i3⟩ := hl
  obtain ⟨ca, cn, rfl⟩ := slice_of hc
  by_cases h60 : 60 < l.length
  · have e60 : (60 : Int) < l.length := by omega
    have AW0 := Lib.hid (AW.out w (Below.refl _ _))
    clear tb hV hc i3
    go_enter Tryd.func10, Tryd.ntmps10
    go_wp2_with fail
    refine Calls.mono AW0.out ?_
    rintro e w1 ⟨rfl, b1⟩
    have B1 := Lib.hid b1
    clear b1
    go_wp2
    go_ret
    exact ⟨rfl, B1.out⟩
  · have e60 : ¬ (60 : Int) < l.length := by omega
    have FA := Lib.hid (field_any which w)
    have hp := fld_pr which
    obtain ⟨q, hq, hq2⟩ := fld_nat which
    rw [hq] at hp
    replace FA := Lib.hid (hq ▸ FA.out)
    have HC := Lib.hid hc
    have HV := Lib.hid hV
    have HI3 := Lib.hid i3
    have hpb := pr_bd hp
    clear tb hV hc i3 hq
    go_enter Tryd.func10, Tryd.ntmps10
    go_wp2_with fail
    refine Calls.mono FA.out ?_
    rintro e w1 ⟨rfl, b1⟩
    have B1 := Lib.hid b1
    have FT := Lib.hid (fit_any q _ c w1 hp (HC.out.below b1))
    clear b1 FA
    go_wp2_with fail
    refine Calls.mono FT.out ?_
    rintro e w2 ⟨v2, a, rfl, hT, hcol, hrow, -, b2⟩
    obtain ⟨aa, an, rfl⟩ := slice_of hT
    have B2 := Lib.hid (B1.out.trans (b2.mono B1.out.size))
    have HT := Lib.hid hT
    have HCOL := Lib.hid hcol
    have HROW := Lib.hid hrow
    clear hT hcol hrow b2 FT
    have hmod := Int.emod_nonneg more (show (201 : Int) ≠ 0 by decide)
    have hmod2 := Int.emod_lt_of_pos more (show (0 : Int) < 201 by decide)
    have DN := Lib.hid (dense_col q (10 + more % 201) _ a w2 (TT.out _ B2.out) HT.out)
    rw [den_ok hp HCOL.out (n := 10 + more % 201) (fun t ht => by have := HROW.out t ht; omega) (by omega) (by omega), if_pos rfl] at DN
    obtain ⟨N, hN⟩ : ∃ N : Nat, N = (10 + more % 201).toNat := ⟨_, rfl⟩
    rw [← hN] at DN
    have hNi : (N : Int) = 10 + more % 201 := by omega
    have hN1 : N ≤ 210 := by omega
    clear hN
    go_wp2_with fail
    refine Calls.mono DN.out ?_
    rintro e w3 ⟨v3, rfl, hI3, -, b3⟩
    obtain ⟨xa, xn, rfl⟩ := intsF_form hI3
    have B3 := Lib.hid (B2.out.trans (b3.mono B2.out.size))
    have HT3 := Lib.hid (HT.out.below b3)
    have OF := Lib.hid (of_col q _ N (co a) w3 (TT.out _ B3.out) hI3)
    rw [ofE_ok hp (by omega), if_pos rfl, sp_back hp HCOL.out (fun t ht => by have := HROW.out t ht; omega) (by omega)] at OF
    clear hI3 b3 DN HT
    go_wp2_with fail
    refine Calls.mono OF.out ?_
    rintro e w4 ⟨v4, rfl, hT4, -, b4⟩
    have B4 := Lib.hid (B3.out.trans (b4.mono B3.out.size))
    have HT4 := Lib.hid (HT3.out.below b4)
    have HB4 := Lib.hid hT4
    have OV := Lib.hid (of_col q _ l.length _ w4 (TT.out _ B4.out) (HV.out.below B4.out))
    rw [ofE_ok hp (by omega), if_pos rfl] at OV
    obtain ⟨W, hW⟩ : ∃ W, W = sp (fun i => md q (l.getD i.toNat 0)) 0 l.length := ⟨_, rfl⟩
    rw [← hW] at OV
    have hWc : Col q W := by rw [hW]; exact sp_col (fun _ => md_bd hp _) (by omega) (by omega)
    have hWr : ∀ t, t ∈ W → t.1 < l.length := fun t ht => by rw [hW] at ht; have := sp_rows _ _ _ t ht; omega
    have hWv : ∀ i : Nat, i < l.length → co W i = md q (l.getD i 0) := fun i hi => by
      rw [hW, sp_co, if_pos (by omega)]
      rfl
    have HWC := Lib.hid hWc
    have HWV := Lib.hid hWv
    have hden := den_ok hp hWc hWr (by omega) (by omega)
    clear hT4 b4 OF HT3 hW hWc hWr hWv
    go_wp2_with fail
    refine Calls.mono OV.out ?_
    rintro e w5 ⟨v5, rfl, hT5, -, b5⟩
    have B5 := Lib.hid (B4.out.trans (b5.mono B4.out.size))
    have HT5 := Lib.hid (HT4.out.below b5)
    have HB5 := Lib.hid (HB4.out.below b5)
    have HW5 := Lib.hid hT5
    have DV := Lib.hid (dense_col q l.length _ W w5 (TT.out _ B5.out) hT5)
    rw [hden, if_pos rfl, Int.toNat_natCast] at DV
    clear hT5 b5 OV HT4 HB4 hden
    go_wp2_with fail
    refine Calls.mono DV.out ?_
    rintro e w6 ⟨v6, rfl, hI6, -, b6⟩
    obtain ⟨ya, yn, rfl⟩ := intsF_form hI6
    have B6 := Lib.hid (B5.out.trans (b6.mono B5.out.size))
    have HT6 := Lib.hid (HT5.out.below b6)
    have HB6 := Lib.hid (HB5.out.below b6)
    have HW6 := Lib.hid (HW5.out.below b6)
    have HY := Lib.hid hI6
    have IS := Lib.hid (is_any _ _ a a 0 w6 HB6.out HT6.out)
    rw [decide_eq_true rfl] at IS
    clear hI6 b6 DV HT5 HB5 HW5
    go_wp2_with fail
    refine Calls.mono IS.out ?_
    rintro e w7 ⟨rfl, m, hm7⟩
    have b7 : Below w6.heap.size w6 w7 := by rw [hm7]; exact below_drewN (Below.refl _ _) _
    have B7 := Lib.hid (B6.out.trans (b7.mono B6.out.size))
    have HW7 := Lib.hid (HW6.out.below b7)
    have HY7 := Lib.hid (HY.out.below b7)
    clear hm7 b7 IS HT6 HB6 HW6 HY
    go_wp2
    go_loopw [19] (fun i wr => ∃ k : Nat, k ≤ l.length ∧ i = .int .i64 k ∧ Below w7.heap.size w7 wr) (fun i _ => l.length - (intOf i).toNat)
    case atStart => exact ⟨0, Nat.zero_le _, rfl, Below.refl _ _⟩
    case round =>
      obtain ⟨k, hk, rfl, hB⟩ := hrel
      have B8 := Lib.hid (B7.out.trans (hB.mono B7.out.size))
      by_cases hlt : k < l.length
      · obtain ⟨g, o, rfl, hg, hcv⟩ := HI3.out (by omega)
        have d0 := (B8.out.cell (p := ⟨g, o + k, none⟩) hg).trans (hcv k hlt)
        obtain ⟨ya', yn', hya, y1, y2, y3⟩ := HY7.out.below hB
        obtain ⟨gy, oy, hyb, hgy, hcy⟩ := y3 (by omega)
        injection hya with hy1 hy2 hy3
        subst hy1
        subst hy3
        clear hy2
        subst hyb
        have d1 := hcy k hlt
        have hwv := HWV.out k hlt
        have hgd : l.getD k 0 = l[k] := by rw [List.getD_eq_getElem?_getD, List.getElem?_eq_getElem hlt]; rfl
        rw [hgd] at hwv
        have HW8 := Lib.hid (HW7.out.below hB)
        have hkl : (k : Int) < l.length := by omega
        obtain ⟨z, hz⟩ : ∃ z, z = co W k := ⟨_, rfl⟩
        rw [← hz] at d1 hwv
        obtain ⟨y, hy⟩ : ∃ y, y = l[k] := ⟨_, rfl⟩
        rw [← hy] at d0 hwv
        have CM := Lib.hid (fun W' (_ : Below wr.heap.size wr W') => rmod_ok q y W' hp)
        rw [← hwv] at CM
        have CE := Lib.hid (fun W' (hb : Below wr.heap.size wr W') => coef_any _ W k W' (HW8.out.below hb))
        rw [← hz] at CE
        have hglt : g < wr.heap.size := by have := B8.out.size; omega
        have KC := Lib.hid (show ∀ W', Below wr.heap.size wr W' → W'.cell? ⟨gy, oy + k, none⟩ = some (.int .i64 z) ∧ W'.cell? ⟨g, o + k, none⟩ = some (.int .i64 y) from fun W' hb => ⟨(hb.cell (p := ⟨gy, oy + k, none⟩) hgy).trans d1, (hb.cell (p := ⟨g, o + k, none⟩) hglt).trans d0⟩)
        have HB := Lib.hid hB
        have HW := Lib.hid (Below.refl wr.heap.size wr)
        clear hcv hcy y3 hgd hwv hz hy hB d0 d1
        go_wp2_with fail
        go_region_held3 (fun W' => W'.cell? ⟨gy, oy + k, none⟩ = some (.int .i64 z) ∧ W'.cell? ⟨g, o + k, none⟩ = some (.int .i64 y)) (exact KC.out _ (by ((repeat (with_reducible apply bel_drew)); with_reducible exact HW.out))) (first | (go_at_call 46; (with_reducible refine Calls.mono (CM.out _ (by ((repeat (with_reducible apply bel_drew)); with_reducible exact HW.out))) ?_); rintro e w' ⟨rfl, rfl⟩) | (go_at_call 19; (with_reducible refine Calls.mono (CE.out _ (by ((repeat (with_reducible apply bel_drew)); with_reducible exact HW.out))) ?_); rintro e w' ⟨rfl, hb3⟩; replace HW := Lib.hid ((show Below wr.heap.size wr _ from (by ((repeat (with_reducible apply bel_drew)); with_reducible exact HW.out))).trans (hb3.mono (Below.size (by ((repeat (with_reducible apply bel_drew)); with_reducible exact HW.out))))); clear hb3) | fail)
        all_goals go_wp2
        all_goals exact ⟨⟨k + 1, by omega, by go_num, HB.out.trans ((show Below wr.heap.size wr _ from (by ((repeat (with_reducible apply bel_drew)); with_reducible exact HW.out))).mono HB.out.size)⟩, by simp [intOf]; omega⟩
      · clear hB
        go_wp2_with fail
        refine Calls.mono (AW.out _ B8.out) ?_
        rintro e w14 ⟨rfl, b14⟩
        have B15 := Lib.hid (B8.out.trans (b14.mono B8.out.size))
        clear b14
        go_wp2
        go_ret
        exact ⟨rfl, B15.out⟩
end Go.Proofs.YtdhcffboaiajeaaDoor
