/-
  ColumnRest returns true: the walk.
-/
import Derived.Test.YtdhcffboaiajeaaDoorRestLaw
namespace Go.Proofs.YtdhcffboaiajeaaDoor
open Go.RowKit M
open Go.Maps

theorem infoI' : (Tryd.prog.info? 3).map (fun i => (i.zero, i.size, i.bytes)) = some (some (.int .i64 0), 1, 8) := by kernel_rfl
set_option maxHeartbeats 8000000 in
set_option maxRecDepth 100000 in
theorem restLaw (which : Int) (v vc : Value) (L : List (List Tm)) (c : List Tm) (w : World) (tb : Tab w) (hL : ListV w v L) (hc : TermsV w vc c) : Calls Tryd.prog 7 #[.int .i64 which, v, vc] w fun e w' => e = .returned (.bool true) ∧ Below w.heap.size w w' := by
  obtain ⟨i0, hi0, hz0, hz1, hz2⟩ := info_parts (show (Tryd.prog.info? 22).map (fun i => (i.zero, i.size, i.bytes)) = some (some (.slice none 0 0), 1, 24) by kernel_rfl)
  obtain ⟨j0, hj0, hy0, hy1, hy2⟩ := info_parts infoI'
  have T := Lib.hid tb
  have TT := Lib.hid (fun W (hb : Below w.heap.size w W) => T.out.on hb)
  have FA := Lib.hid (field_any which w)
  have hp := fld_pr which
  obtain ⟨q, hq, hq2⟩ := fld_nat which
  rw [hq] at hp
  replace FA := Lib.hid (hq ▸ FA.out)
  haveI : NeZero q := ⟨by omega⟩
  have F := fld_of hp
  have HL := Lib.hid hL
  have HC := Lib.hid hc
  obtain ⟨la, ln, rfl⟩ := hL.form
  obtain ⟨ca, cn, rfl⟩ := slice_of hc
  clear tb hL hc hq
  go_enter Tryd.func7, Tryd.ntmps7
  go_wp2_with fail
  refine Calls.mono FA.out ?_
  rintro e w1 ⟨rfl, b1⟩
  have B1 := Lib.hid b1
  have FL := Lib.hid (fitList_any q _ L w1 hp (HL.out.below b1))
  clear b1
  go_wp2_with fail
  refine Calls.mono FL.out ?_
  rintro e w2 ⟨v2, R, rfl, hR, hF, h8, hf, b2⟩
  obtain ⟨ra, rn, hra, a1, a2, a3⟩ := hR
  subst hra
  have HF := Lib.hid hF
  have HA3 := Lib.hid a3
  have B2 := Lib.hid (B1.out.trans (b2.mono B1.out.size))
  clear b2 hf FL FA hF a3 a2
  go_wp2
  go_loopw [8, 9, 35] (fun vl vw i wr => ∃ (k : Nat) (E : List (List Tm)), k ≤ R.length ∧ i = .int .i64 k ∧ RL wr w2.heap.size vl vw q E ∧ E.length ≤ k ∧ Below w2.heap.size w2 wr) (fun _ _ i _ => R.length - (intOf i).toNat)
  case atStart => exact ⟨0, [], Nat.zero_le _, rfl, ⟨OwnC.nil _ _ _, World.ownsRow_nil _ _ _ _, Ind.nil q, FitL.nil q⟩, Nat.zero_le _, Below.refl _ _⟩
  case round =>
    obtain ⟨k, E, hk, rfl, hRL, hn, hB⟩ := hrel
    obtain ⟨wa, wn, rfl⟩ := row_form hRL.row
    by_cases hlt : k < R.length
    · obtain ⟨g, o, rfl, hg, hcl⟩ := HA3.out (by omega)
      obtain ⟨u, d0, hT⟩ := hcl k hlt
      replace d0 := (hB.cell (p := ⟨g, o + k, none⟩) hg).trans d0
      have hcol := HF.out.cols _ (List.getElem_mem hlt)
      have hrows := HF.out.rows _ (List.getElem_mem hlt)
      have hTr := hT.below hB
      obtain ⟨cc, hcc⟩ : ∃ cc, cc = R[k] := ⟨_, rfl⟩
      rw [← hcc] at hT hcol hrows hTr
      have CL := Lib.hid (rlow_any u cc wr hTr)
      have hub : cc ≠ [] → ∀ j, u.ownBlock = some j → j < w2.heap.size := hT.lt
      obtain ⟨ua, un, rfl⟩ := slice_of hT
      obtain ⟨lo, hlo⟩ : ∃ lo, lo = low cc := ⟨_, rfl⟩
      rw [← hlo] at CL
      have hz := okb_zero cc E
      obtain ⟨b0, hb0⟩ : ∃ b0, b0 = decide (cc ≠ []) := ⟨_, rfl⟩
      rw [← hb0] at CL hz
      have HZ := Lib.hid hz
      have HLO := Lib.hid hlo
      have HRL := Lib.hid hRL
      have HB := Lib.hid hB
      have HT := Lib.hid hTr
      have HCOL := Lib.hid hcol
      have HROWS := Lib.hid hrows
      have HUB := Lib.hid hub
      have hkR : (k : Int) < R.length := by omega
      have hElt : E.length ≤ 8 := by omega
      clear hcl hT hTr hcol hrows hub hcc hz hb0 hlo hRL hB
      go_wp2_with (go_at_call 16; refine Calls.mono CL.out ?_; rintro e w' ⟨rfl, rfl⟩)
      go_loop [13, 46] (fun ok i => ∃ j : Nat, j ≤ E.length ∧ i = .int .i64 j ∧ ok = .bool (okb cc E j)) (fun _ i => E.length - (intOf i).toNat)
      case atStart => exact ⟨0, Nat.zero_le _, rfl, by rw [HZ.out]⟩
      case round =>
        obtain ⟨j, hj, rfl, rfl⟩ := hrel
        by_cases hjl : j < E.length
        · have hjl2 : (j : Int) < E.length := by omega
          obtain ⟨gw, hwa⟩ : ∃ gw, wa = some ⟨gw, 0, none⟩ := by
            rcases HRL.out.row.2 with ⟨-, hn⟩ | ⟨g, cap, cur, e, -⟩
            · omega
            · injection e with e1 e2 e3
              exact ⟨g, e1⟩
          subst hwa
          have dj := HRL.out.row.cellAt j (by omega)
          rw [lowsV_get hjl] at dj
          obtain ⟨lj, hlj⟩ : ∃ lj, lj = low (E.getD j []) := ⟨_, rfl⟩
          rw [← hlj] at dj
          cases hq : okb cc E j with
          | false =>
            have HO := Lib.hid (okb_off hq)
            clear hq hlj
            go_wp2
            exact ⟨⟨j + 1, by omega, by go_num, by rw [HO.out]⟩, by simp [intOf]; omega⟩
          | true =>
            by_cases he : lj = lo
            · have HO := Lib.hid (okb_hit (show low (E.getD j []) = low cc from by rw [← hlj, ← HLO.out, he]))
              subst he
              clear hq hlj
              go_wp2
              exact ⟨⟨j + 1, by omega, by go_num, by rw [HO.out]⟩, by simp [intOf]; omega⟩
            · have HO := Lib.hid (okb_on hq (by rw [← hlj, ← HLO.out]; exact he))
              have e0 : (lj == lo) = false := beq_eq_false_iff_ne.2 he
              clear hq hlj
              go_wp2
              exact ⟨⟨j + 1, by omega, by go_num, by rw [HO.out, bne, e0]; rfl⟩, by simp [intOf]; omega⟩
        · have hjx : j = E.length := by omega
          subst hjx
          cases hq : okb cc E E.length with
          | false =>
            clear hq
            go_wp2
            exact ⟨⟨k + 1, E, by omega, by go_num, HRL.out, by omega, HB.out⟩, by simp [intOf]; omega⟩
          | true =>
            have HQ := Lib.hid hq
            have hcc0 := (of_decide_eq_true hq).1
            obtain ⟨ts, hl, hrow, hi⟩ := HRL.out.own.ex
            have hrow2 := HRL.out.row
            have hfar := HRL.out.own.far
            have hk2 : (Value.slice wa E.length wn).ownBlock = none ∨ (Value.slice wa E.length wn).ownBlock ≠ u8.ownBlock := by
              cases h : (Value.slice wa E.length wn).ownBlock with
              | none => exact .inl rfl
              | some g => exact .inr (fun e => hfar g e.symm (mem_bl.2 h))
            have hu : cc ≠ [] → ∀ g, (Value.slice ua cc.length un).ownBlock = some g → u8.ownBlock ≠ some g ∧ g ∉ bl (Value.slice wa E.length wn) := fun h0 g e => by
              have h1 := HUB.out h0 g e
              exact ⟨fun e2 => by have := (HRL.out.own.lt g e2).1; omega, fun hm => by have := (hrow2.lt g (mem_bl.1 hm)).1; omega⟩
            have hvB : ∀ g, u8.ownBlock = some g → w2.heap.size ≤ g := fun g e => (HRL.out.own.lt g e).1
            have hwB : ∀ g, (Value.slice wa E.length wn).ownBlock = some g → w2.heap.size ≤ g := fun g e => (hrow2.lt g e).1
            have hbz := HB.out.size
            have HU := Lib.hid hu
            have HI := Lib.hid hi
            have HVB := Lib.hid hvB
            have HWB := Lib.hid hwB
            have HK2 := Lib.hid hk2
            clear hq hfar hu hi hvB hwB hk2
            go_wp2_with (first | (at_builtin; refine wpList_append_own_at _ rfl _ _ 24 rfl w2.heap.size 22 i0 (.slice none 0 0) 1 24 Tryd.underlying24 hi0 hz0 hz1 hz2 rfl (by decide) _ _ _ rfl (hrow.alloc _) ⟨wr.heap.size, 0, none⟩ 1 1 [.slice ua cc.length un] rfl rfl (cell_one_new _ _ _) (by simp [Value.oneCell']) (by unfold maxLen; omega) (by omega) (by simp; omega) ?_; intro vl' w7 hown' hgrow _ hloc; have hrow7 := (hrow2.alloc (.cells #[.slice ua cc.length un] 22)).kept hgrow HK2.out; have s7 : w2.heap.size ≤ w7.heap.size := (by have := hgrow.size; rw [World.size_alloc] at this; omega)) | (at_builtin; refine wpList_append_own_at _ rfl _ _ 41 rfl w2.heap.size 3 j0 (.int .i64 0) 1 8 Tryd.underlying41 hj0 hy0 hy1 hy2 rfl (by decide) _ _ _ rfl (hrow7.alloc _) ⟨w7.heap.size, 0, none⟩ 1 1 [.int .i64 lo] rfl rfl (cell_one_new _ _ _) (by simp [Value.oneCell']) (by unfold maxLen; omega) (by omega) (by simp; omega) ?_; intro vw' w9 hown2 hgrow2 _ hloc2))
            refine ⟨⟨k + 1, E ++ [cc], by omega, by go_num, RL.more HRL.out hl HI.out HT.out HU.out HCOL.out HROWS.out HQ.out _ _ hown' hgrow hloc (by rw [← HLO.out]; exact hown2) hgrow2 hloc2, by rw [List.length_append, List.length_singleton]; omega, ?_⟩, by simp [intOf]; omega⟩
            exact (HB.out.grown ((World.grownBy_alloc wr (.cells #[.slice ua cc.length un] 22) _).trans hgrow) hbz HVB.out).grown ((World.grownBy_alloc w7 (.cells #[.int .i64 lo] 3) _).trans hgrow2) s7 HWB.out
    · have B3 := Lib.hid (B2.out.trans (hB.mono B2.out.size))
      have FT := Lib.hid (fit_any q _ c wr hp (HC.out.below B3.out))
      have hEl : E.length ≤ 8 := by omega
      have hcL : chkLs q E = 0 := chkLs_zero.2 ⟨by omega, hp, hRL.ind.cols⟩
      have hlw : lwE E [] = 0 := (lwE_ind hRL.ind.cols).2 hRL.ind
      have hrs : ∀ y, Col q y → rsE q E y = 0 := fun y hy => by unfold rsE; rw [if_pos hcL, if_pos (chk_zero.2 ⟨hp, hy⟩), hlw]
      have HIN := Lib.hid hRL.ind
      obtain ⟨oa, on, rfl⟩ := hRL.own.listV.form
      have HRL := Lib.hid hRL
      have hsz3 := B3.out.size
      clear hRL hB hlw
      go_wp2_with fail
      refine Calls.mono FT.out ?_
      rintro e w3 ⟨v3, x, rfl, hx, hxc, hxr, -, b3⟩
      obtain ⟨xa, xn, rfl⟩ := slice_of hx
      have HR3 := Lib.hid (HRL.out.below b3)
      have HX3 := Lib.hid hx
      have B4 := Lib.hid (B3.out.trans (b3.mono hsz3))
      have RC := Lib.hid (rest_col q _ _ E x w3 (TT.out _ B4.out) HR3.out.own.listV hx)
      rw [hrs x hxc] at RC
      have HXC := Lib.hid hxc
      clear hx hxr b3 FT hxc
      go_wp2_with fail
      refine Calls.mono RC.out ?_
      rintro e w4 ⟨v4, v5, r, u, rfl, hT4, hT5, hIR, -, -, -, b4⟩
      have hIR := hIR rfl
      obtain ⟨r4a, r4n, rfl⟩ := slice_of hT4
      have HF := Lib.hid (rfacts hp HIN.out HXC.out hcL hIR)
      have HIR := Lib.hid hIR
      have B5 := Lib.hid (B4.out.trans (b4.mono B4.out.size))
      have HR4 := Lib.hid (HR3.out.below b4)
      have HX4 := Lib.hid (HX3.out.below b4)
      have CO := Lib.hid (combine_col q _ _ E u w4 (TT.out _ B5.out) HR4.out.own.listV hT5)
      rw [HF.out.cm, if_pos rfl] at CO
      have HT4 := Lib.hid hT4
      obtain ⟨su, hsu⟩ : ∃ su, su = sp (fun i => md q (cmb E (fun k => co u k) i)) 0 1024 := ⟨_, rfl⟩
      have hsum := HF.out.sum
      have hscol := HF.out.scol
      rw [← hsu] at CO hsum hscol
      have HSUM := Lib.hid hsum
      have HSC := Lib.hid hscol
      clear hT4 hT5 hIR b4 RC hsu hsum hscol HR3 HX3
      go_wp2_with fail
      refine Calls.mono CO.out ?_
      rintro e w5 ⟨v6, rfl, hT6, -, b5⟩
      have B6 := Lib.hid (B5.out.trans (b5.mono B5.out.size))
      have HR5 := Lib.hid (HR4.out.below b5)
      have HX5 := Lib.hid (HX4.out.below b5)
      have HT5 := Lib.hid (HT4.out.below b5)
      have RC := Lib.hid (rest_col q _ _ E r w5 (TT.out _ B6.out) HR5.out.own.listV HT5.out)
      rw [hrs r HIR.out.col] at RC
      have HT6 := Lib.hid hT6
      clear hT6 b5 CO HR4 HX4 HT4
      go_wp2_with fail
      refine Calls.mono RC.out ?_
      rintro e w6 ⟨v7, v8, r', u', rfl, hT7, hT8, hIR2, -, -, -, b6⟩
      obtain ⟨rfl, rfl⟩ := HF.out.again r' u' (hIR2 rfl)
      obtain ⟨r8a, r8n, rfl⟩ := slice_of hT8
      have B7 := Lib.hid (B6.out.trans (b6.mono B6.out.size))
      have HR6 := Lib.hid (HR5.out.below b6)
      have HX6 := Lib.hid (HX5.out.below b6)
      have HR4r := Lib.hid (HT5.out.below b6)
      have HS6 := Lib.hid (HT6.out.below b6)
      have HT7 := Lib.hid hT7
      have CP := Lib.hid (copyList_any _ E w6 HR6.out.own.listV (by omega) (fun d hd => by have := col_len (HIN.out.cols d hd); omega))
      clear hT7 hT8 hIR2 b6 RC HR5 HX5 HT5 HT6
      go_wp2_with fail
      refine Calls.mono CP.out ?_
      rintro e w7 ⟨v9, rfl, hO, b7⟩
      have B8 := Lib.hid (B7.out.trans (b7.mono B7.out.size))
      have HR7 := Lib.hid (HR6.out.below b7)
      have HX7 := Lib.hid (HX6.out.below b7)
      have HR7r := Lib.hid (HR4r.out.below b7)
      have HS7 := Lib.hid (HS6.out.below b7)
      have HT8 := Lib.hid (HT7.out.below b7)
      obtain ⟨ts, hl, hrow, hi⟩ := hO.ex
      have s67 : w6.heap.size ≤ w7.heap.size := b7.size
      have hu : x ≠ [] → ∀ g, (Value.slice xa x.length xn).ownBlock = some g → v9.ownBlock ≠ some g ∧ g ∉ ([] : List Nat) := fun h0 g e => ⟨fun e2 => by have h1 := HX6.out.lt h0 g e; have h2 := (hO.lt g e2).1; omega, by simp⟩
      have hvB : ∀ g, v9.ownBlock = some g → w6.heap.size ≤ g := fun g e => (hO.lt g e).1
      have HU := Lib.hid hu
      have HI := Lib.hid hi
      have HO := Lib.hid hO
      have HVB := Lib.hid hvB
      have HB67 := Lib.hid b7
      clear hu hi hO hvB b7 CP HR7 HR7r HS7 HT8
      go_wp2_with (at_builtin; refine wpList_append_own_at _ rfl _ _ 24 rfl w6.heap.size 22 i0 (.slice none 0 0) 1 24 Tryd.underlying24 hi0 hz0 hz1 hz2 rfl (by decide) _ _ _ rfl (hrow.alloc _) ⟨w7.heap.size, 0, none⟩ 1 1 [.slice xa x.length xn] rfl rfl (cell_one_new _ _ _) (by simp [Value.oneCell']) (by unfold maxLen; omega) (by omega) (by simp; omega) ?_; intro v10 w8 hown' hgrow _ hloc)
      have OC : OwnC w8 w6.heap.size v10 (E ++ [x]) [] := OwnC.snoc hl HI.out HO.out.far HX7.out HU.out (fun g hg => absurd hg (by simp)) _ hown' hgrow hloc
      have b8 : Below w6.heap.size w6 w8 := HB67.out.grown ((World.grownBy_alloc w7 (.cells #[.slice xa x.length xn] 22) _).trans hgrow) s67 HVB.out
      have B9 := Lib.hid (B7.out.trans (b8.mono B7.out.size))
      have HR8 := Lib.hid (HR6.out.below b8)
      have HX8 := Lib.hid (HX6.out.below b8)
      have HR8r := Lib.hid (HR4r.out.below b8)
      have HS8 := Lib.hid (HS6.out.below b8)
      have HT9 := Lib.hid (HT7.out.below b8)
      have hcx : chkLs q (E ++ [x]) = 0 := chkLs_zero.2 ⟨by rw [List.length_append, List.length_singleton]; omega, hp, fun d hd => (List.mem_append.1 hd).elim (HIN.out.cols d) (fun g => by rw [List.mem_singleton.1 g]; exact HXC.out)⟩
      have RK := Lib.hid (rank_col (q := q) _ (E ++ [x]) w8 (TT.out _ B9.out) OC.listV)
      rw [hcx] at RK
      clear OC b8 hown' hgrow hloc HI HO HU HVB HB67 HX7 HR6 HX6 HR4r HS6 HT7 hrow hcx
      refine Calls.mono RK.out ?_
      rintro e w9 ⟨n, rfl, hn, -, b9⟩
      have hrk := HF.out.rank n (hn rfl)
      have B10 := Lib.hid (B9.out.trans (b9.mono B9.out.size))
      have HR9 := Lib.hid (HR8.out.below b9)
      have HX9 := Lib.hid (HX8.out.below b9)
      have HR9r := Lib.hid (HR8r.out.below b9)
      have HS9 := Lib.hid (HS8.out.below b9)
      have HT10 := Lib.hid (HT9.out.below b9)
      have PL := Lib.hid (plusL_any q 1 _ _ r' su w9 (TT.out _ B10.out) HR9r.out HS9.out)
      rw [if_pos (chk2_zero.2 ⟨hp, HIR.out.col, HSC.out⟩), HSUM.out] at PL
      clear b9 hn RK HR8 HX8 HR8r HS8 HT9
      have EX := Lib.hid (fun (j : Nat) (hj : j < E.length) => HIR.out.zero j hj)
      have AW := Lib.hid (fun W (hb : Below w.heap.size w W) => awake_true W (TT.out W hb))
      have hrn : (r' = [] ∧ n = E.length) ∨ (((r'.length : Int) == 0) = false ∧ ((n : Int) == (E.length : Int)) = false) := by
        by_cases g : r' = []
        · exact .inl ⟨g, hrk.1 g⟩
        · refine .inr ⟨beq_eq_false_iff_ne.2 ?_, beq_eq_false_iff_ne.2 fun e => g (hrk.2 (by omega))⟩
          have := List.length_pos_iff.2 g
          omega
      clear hrk
      rcases hrn with ⟨rfl, rfl⟩ | ⟨hr0, hn0⟩
      all_goals
        go_wp2_with fail
        refine Calls.mono PL.out ?_
        rintro e w10 ⟨v11, rfl, hT11, -, b10⟩
        have B11 := Lib.hid (B10.out.trans (b10.mono B10.out.size))
        have SA := Lib.hid (same_any _ _ x x w10 hT11 (HX9.out.below b10))
        rw [decide_eq_true rfl] at SA
        have HR10 := Lib.hid (HR9.out.below b10)
        have HR10r := Lib.hid (HR9r.out.below b10)
        have HT12 := Lib.hid (HT10.out.below b10)
        clear hT11 b10 PL HR9 HR9r HT10 HX9 HS9
        go_wp2_with fail
        refine Calls.mono SA.out ?_
        rintro e w11 ⟨rfl, m1, hm1⟩
        have bm : Below w10.heap.size w10 w11 := by rw [hm1]; exact below_drewN (Below.refl _ _) _
        have B12 := Lib.hid (B11.out.trans (bm.mono B11.out.size))
        have SA2 := Lib.hid (same_any _ _ _ _ w11 (HT12.out.below bm) (HR10r.out.below bm))
        rw [decide_eq_true rfl] at SA2
        have HR11 := Lib.hid (HR10.out.below bm)
        have HR11r := Lib.hid (HR10r.out.below bm)
        clear hm1 bm SA HR10 HR10r HT12
        go_wp2_with fail
        refine Calls.mono SA2.out ?_
        rintro e w12 ⟨rfl, m2, hm2⟩
        have bm : Below w11.heap.size w11 w12 := by rw [hm2]; exact below_drewN (Below.refl _ _) _
        have B13 := Lib.hid (B12.out.trans (bm.mono B12.out.size))
        have HR12 := Lib.hid (HR11.out.below bm)
        have HR12r := Lib.hid (HR11r.out.below bm)
        clear hm2 bm SA2 HR11 HR11r
        go_wp2
        go_loopw [149] (fun i wr => ∃ j : Nat, j ≤ E.length ∧ i = .int .i64 j ∧ Below w12.heap.size w12 wr) (fun i _ => E.length - (intOf i).toNat)
        case atStart => exact ⟨0, Nat.zero_le _, rfl, Below.refl _ _⟩
        case round =>
          obtain ⟨j, hj, rfl, hB⟩ := hrel
          by_cases hjl : j < E.length
          · have hjl2 : (j : Int) < E.length := by omega
            have hrow := (HR12.out.below hB).row
            obtain ⟨gw, hwa⟩ : ∃ gw, wa = some ⟨gw, 0, none⟩ := by
              rcases hrow.2 with ⟨-, hn⟩ | ⟨g, cap, cur, e, -⟩
              · omega
              · injection e with e1 e2 e3
                exact ⟨g, e1⟩
            subst hwa
            have dj := hrow.cellAt j (by omega)
            rw [lowsV_get hjl] at dj
            have CE := Lib.hid (coef_any _ _ (low (E.getD j [])) _ (HR12r.out.below hB))
            rw [EX.out j hjl] at CE
            have HB := Lib.hid hB
            obtain ⟨lj, hlj⟩ : ∃ lj, lj = low (E.getD j []) := ⟨_, rfl⟩
            rw [← hlj] at dj CE
            clear hrow hlj hB
            go_wp2_with fail
            refine Calls.mono CE.out ?_
            rintro e w13 ⟨rfl, b13⟩
            have HB2 := Lib.hid (HB.out.trans (b13.mono HB.out.size))
            clear b13
            go_wp2
            exact ⟨⟨j + 1, by omega, by go_num, HB2.out⟩, by simp [intOf]; omega⟩
          · have B14 := Lib.hid (B13.out.trans (hB.mono B13.out.size))
            clear hB
            go_wp2_with fail
            refine Calls.mono (AW.out _ B14.out) ?_
            rintro e w14 ⟨rfl, b14⟩
            have B15 := Lib.hid (B14.out.trans (b14.mono B14.out.size))
            clear b14
            go_wp2
            go_ret
            exact ⟨rfl, B15.out⟩
end Go.Proofs.YtdhcffboaiajeaaDoor
