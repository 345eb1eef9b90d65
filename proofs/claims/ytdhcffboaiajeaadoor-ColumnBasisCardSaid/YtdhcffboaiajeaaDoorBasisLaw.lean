/-
  ColumnBasis returns true.
-/
import Derived.Test.YtdhcffboaiajeaaDoorSpans
import Derived.Deep.AppendLies
namespace Go.Proofs.YtdhcffboaiajeaaDoor
open Go.RowKit M
open Go.Maps

theorem getD_of {L : List (List Tm)} {k : Nat} (h : k < L.length) : L.getD k [] = L[k] := by
  rw [List.getD_eq_getElem?_getD, List.getElem?_eq_getElem h]; rfl
theorem cell_lt {w : World} {p : Addr} {u : Value} (h : w.cell? p = some u) : p.block < w.heap.size := by
  unfold World.cell? at h
  by_cases g : p.block < w.heap.size
  · exact g
  · rw [Array.getElem?_eq_none (by omega)] at h
    cases h
theorem two_in {P : Value → List Tm → Prop} {u1 u2 : Value} {c1 c2 : List Tm} (h1 : P u1 c1) (h2 : P u2 c2) : ∀ i, i < [c1, c2].length → P ([u1, u2].getD i undef) ([c1, c2].getD i [])
  | 0, _ => h1
  | 1, _ => h2
set_option maxHeartbeats 8000000 in
set_option maxRecDepth 100000 in
theorem basisLaw (which : Int) (v vk : Value) (L : List (List Tm)) (ks : List Int) (w : World) (tb : Tab w) (hL : ListV w v L) (hks : IntsV w vk ks) : Calls Tryd.prog 8 #[.int .i64 which, v, vk] w fun e w' => e = .returned (.bool true) ∧ Below w.heap.size w w' := by
  obtain ⟨i0, hi0, hz0, hz1, hz2⟩ := info_parts (show (Tryd.prog.info? 22).map (fun i => (i.zero, i.size, i.bytes)) = some (some (.slice none 0 0), 1, 24) by kernel_rfl)
  have T := Lib.hid tb
  have TT := Lib.hid (fun W (hb : Below w.heap.size w W) => T.out.on hb)
  have AW := Lib.hid (fun W (hb : Below w.heap.size w W) => awake_true W (TT.out W hb))
  have FA := Lib.hid (field_any which w)
  have hp := fld_pr which
  obtain ⟨q, hq, hq2⟩ := fld_nat which
  rw [hq] at hp
  replace FA := Lib.hid (hq ▸ FA.out)
  haveI : NeZero q := ⟨by omega⟩
  have hpb := pr_bd hp
  have HL := Lib.hid hL
  obtain ⟨la, ln, rfl⟩ := hL.form
  obtain ⟨ka, kn, rfl, k1, k2, k3⟩ := hks
  unfold maxLen at k2
  have K3 := Lib.hid k3
  clear tb hL hq k3
  go_enter Tryd.func8, Tryd.ntmps8
  go_wp2_with fail
  refine Calls.mono FA.out ?_
  rintro e w1 ⟨rfl, b1⟩
  have B1 := Lib.hid b1
  have FL := Lib.hid (fitList_any q _ L w1 hp (HL.out.below b1))
  clear b1
  go_wp2_with fail
  refine Calls.mono FL.out ?_
  rintro e w2 ⟨v2, R, rfl, hR, hF, h8, hf, b2⟩
  obtain ⟨ra, rn, rfl⟩ := hR.form
  have HR := Lib.hid hR
  have CR := Lib.hid hF.cols
  have B2 := Lib.hid (B1.out.trans (b2.mono B1.out.size))
  have hcR : chkLs q R = 0 := chkLs_zero.2 ⟨by omega, hp, hF.cols⟩
  have BE := Lib.hid (basis_col (q := q) _ R w2 (TT.out _ B2.out) HR.out)
  rw [hcR] at BE
  clear b2 hR hf FL FA hF
  go_wp2_with fail
  refine Calls.mono BE.out ?_
  rintro e w3 ⟨v3, b, rfl, hZ, hK, -, -, b3⟩
  obtain ⟨za, zn, rfl⟩ := hZ.form
  have HK := Lib.hid (hK rfl)
  have HZ := Lib.hid hZ
  have HR3 := Lib.hid (HR.out.below b3)
  have B3 := Lib.hid (B2.out.trans (b3.mono B2.out.size))
  have RK := Lib.hid (rank_col (q := q) _ R w3 (TT.out _ B3.out) HR3.out)
  rw [hcR] at RK
  clear b3 hZ hK BE HR
  go_wp2_with fail
  refine Calls.mono RK.out ?_
  rintro e w4 ⟨n, rfl, hn, -, b4⟩
  have HF := Lib.hid (bfacts hp CR.out HK.out.1 HK.out.2 (hn rfl))
  obtain rfl := HF.out.len
  have hle : (b.length : Int) ≤ R.length := by have := HF.out.le; omega
  have hle2 : decide ((R.length : Int) < b.length) = false := decide_eq_false (by omega)
  have hle3 : decide (R.length < b.length) = false := decide_eq_false (by omega)
  have hbl : b.length ≤ 8 := by omega
  have HZ4 := Lib.hid (HZ.out.below b4)
  have HR4 := Lib.hid (HR3.out.below b4)
  have B4 := Lib.hid (B3.out.trans (b4.mono B3.out.size))
  have SP := Lib.hid (spans_any (q := q) _ _ b R w4 (TT.out _ B4.out) hp HZ4.out HR4.out HF.out.rd.ind (by omega) CR.out HF.out.spans)
  clear b4 hn RK HZ HR3 HK hcR
  go_wp2_with fail
  refine Calls.mono SP.out ?_
  rintro e w5 ⟨rfl, b5⟩
  have HZ5 := Lib.hid (HZ4.out.below b5)
  have HR5 := Lib.hid (HR4.out.below b5)
  have B5 := Lib.hid (B4.out.trans (b5.mono B4.out.size))
  clear b5 SP HZ4 HR4
  go_wp2
  go_loopw [13, 73] (fun la i wr => ∃ (k : Nat) (last : Int), k ≤ b.length ∧ la = .int .i64 last ∧ i = .int .i64 k ∧ (∀ j, k ≤ j → j < b.length → last < low (b.getD j [])) ∧ Below w5.heap.size w5 wr) (fun _ i _ => b.length - (intOf i).toNat)
  case atStart => exact ⟨0, -1, Nat.zero_le _, rfl, rfl, HF.out.start, Below.refl _ _⟩
  case round =>
    obtain ⟨k, last, hk, rfl, rfl, hla, hB⟩ := hrel
    have HLA := Lib.hid hla
    have HB := Lib.hid hB
    have HZ6 := Lib.hid (HZ5.out.below hB)
    have HR6 := Lib.hid (HR5.out.below hB)
    have B6 := Lib.hid (B5.out.trans (hB.mono B5.out.size))
    clear hB hla
    by_cases hlt : k < b.length
    · obtain ⟨za', zn', hza, z1, z2, z3⟩ := HZ6.out
      obtain ⟨g, o, rfl, hg, hc⟩ := z3 (by omega)
      injection hza with hza1 hza2 hza3
      subst hza1 hza3
      clear hza2
      obtain ⟨u, d0, hT⟩ := hc k hlt
      rw [← getD_of hlt] at hT
      obtain ⟨f1, f2, f3, f4, f5⟩ := HF.out.step hlt HLA.out
      have CL := Lib.hid (low_any u _ wr hT)
      rw [decide_eq_true f1] at CL
      have CE := Lib.hid (coef_any u (b.getD k []) (low (b.getD k [])) wr hT)
      rw [f3] at CE
      obtain ⟨lo, hlo⟩ : ∃ lo, lo = low (b.getD k []) := ⟨_, rfl⟩
      rw [← hlo] at CL CE f2 f4 f5
      have F4 := Lib.hid f4
      have F5 := Lib.hid f5
      have HC := Lib.hid hc
      have f6 : decide (lo ≤ last) = false := decide_eq_false f2
      have hkb : (k : Int) < b.length := by omega
      clear hc z3 hT f1 f3 f4 f5 hlo HZ6 HLA
      go_wp2_with fail
      refine Calls.mono CL.out ?_
      rintro e w' ⟨rfl, rfl⟩
      go_wp2_with fail
      refine Calls.mono CE.out ?_
      rintro e w6 ⟨rfl, b6⟩
      have HB6 := Lib.hid b6
      clear b6 CL CE
      go_wp2
      go_loopw [18] (fun j wr2 => ∃ jj : Nat, jj ≤ b.length ∧ j = .int .i64 jj ∧ Below wr.heap.size wr wr2) (fun j _ => b.length - (intOf j).toNat)
      case atStart => exact ⟨0, Nat.zero_le _, rfl, HB6.out⟩
      case round =>
        obtain ⟨jj, hj, rfl, hB2⟩ := hrel
        have HB2 := Lib.hid hB2
        clear hB2
        by_cases hjl : jj < b.length
        · have hjl2 : (jj : Int) < b.length := by omega
          by_cases hjk : jj = k
          · subst hjk
            go_wp2
            exact ⟨⟨jj + 1, by omega, by go_num, HB2.out⟩, by simp [intOf]; omega⟩
          · have hjk2 : ¬ (jj : Int) = (k : Int) := by omega
            obtain ⟨u2, e0, hT2⟩ := HC.out jj hjl
            rw [← getD_of hjl] at hT2
            replace e0 := (HB2.out.cell (p := ⟨g, o + jj, none⟩) hg).trans e0
            have CE := Lib.hid (coef_any u2 (b.getD jj []) lo _ (hT2.below HB2.out))
            rw [F5.out jj hjl hjk] at CE
            clear hT2 hjk
            go_wp2_with fail
            refine Calls.mono CE.out ?_
            rintro e w7 ⟨rfl, b7⟩
            have HB7 := Lib.hid (HB2.out.trans (b7.mono HB2.out.size))
            clear b7 CE
            go_wp2
            exact ⟨⟨jj + 1, by omega, by go_num, HB7.out⟩, by simp [intOf]; omega⟩
        · go_wp2
          exact ⟨⟨k + 1, lo, by omega, rfl, by go_num, F4.out, HB.out.trans (HB2.out.mono HB.out.size)⟩, by simp [intOf]; omega⟩
    · clear HLA HB
      have SC := Lib.hid (fun W (k : Int) va a (hb : Below w.heap.size w W) (ha : TermsV W va a) (ca : Col q a) => (show Calls Tryd.prog 23 #[.int .i64 q, va, .int .i64 k] W (GivesCE (pls q [] k a) 0 W) from by
        have h := scale_col q k va a W (TT.out W hb) ha
        rwa [chk_zero.2 ⟨hp, ca⟩, if_pos rfl] at h))
      have PL := Lib.hid (fun W (k : Int) va vb a b (hb : Below w.heap.size w W) (ha : TermsV W va a) (hb' : TermsV W vb b) (ca : Col q a) (cb : Col q b) => (show Calls Tryd.prog 47 #[.int .i64 q, va, .int .i64 k, vb] W (GivesC (pls q a k b) W) from by
        have h := plusL_any q k va vb a b W (TT.out W hb) ha hb'
        rwa [if_pos (chk2_zero.2 ⟨hp, ca, cb⟩)] at h))
      have MK := Lib.hid (fun W k => rmod_ok q k W hp)
      rename World => wm
      go_wp2
      go_loopw [19, 20] (fun vo i wo => ∃ (k : Nat) (z : Int) (O : List (List Tm)), k ≤ R.length ∧ z = (k : Int) - 1 ∧ i = .int .i64 z ∧ OwnC wo wm.heap.size vo O [] ∧ OB q R O k ∧ Below wm.heap.size wm wo) (fun _ i _ => (intOf i + 1).toNat)
      case atStart => exact ⟨R.length, _, [], Nat.le_refl _, rfl, rfl, OwnC.nil _ _ _, OB.start R, Below.refl _ _⟩
      case round =>
        obtain ⟨k, z, O, hk, hz, rfl, hO, hOB, hB⟩ := hrel
        have HB := Lib.hid hB
        have HR7 := Lib.hid (HR6.out.below hB)
        have HZ7 := Lib.hid (HZ6.out.below hB)
        have B7 := Lib.hid (B6.out.trans (hB.mono B6.out.size))
        have HO := Lib.hid hO
        have HOB := Lib.hid hOB
        have hOl : O.length ≤ 16 := by have := hOB.len; omega
        clear hB hO hOB
        by_cases hk0 : k = 0
        · subst hk0
          obtain rfl : z = -1 := by omega
          clear hz
          have hcO : chkLs q O = 0 := chkLs_zero.2 ⟨by omega, hp, HOB.out.cols⟩
          have hRn : ra = none ∨ ∃ ad, ra = some ad := by cases ra <;> simp
          have BE := Lib.hid (basis_col (q := q) _ O wr (TT.out _ B7.out) HO.out.listV)
          rw [hcO] at BE
          clear hcO
          go_wp2_with fail
          refine Calls.mono BE.out ?_
          rintro e w8 ⟨v8, o', rfl, hZo, hr, -, -, b8⟩
          obtain rfl := (HF.out.other O o' HOB.out (hr rfl).1 (hr rfl).2).symm
          have HZ8 := Lib.hid (HZ7.out.below b8)
          have HR8 := Lib.hid (HR7.out.below b8)
          have B8 := Lib.hid (B7.out.trans (b8.mono B7.out.size))
          have HZo := Lib.hid hZo
          have CP := Lib.hid (copyList_any _ b w8 HZ8.out (by omega) (fun d hd => by have := col_len (HF.out.rd.cols d hd); omega))
          clear hZo hr b8 BE HZ7 HR7 HO HOB
          go_wp2_with fail
          refine Calls.mono CP.out ?_
          rintro e w9 ⟨v9, rfl, hO9, b9⟩
          have HB9 := Lib.hid b9
          have HO9 := Lib.hid hO9
          have HR9 := Lib.hid (HR8.out.below b9)
          obtain ⟨ts, hl, hrow, hi⟩ := hO9.ex
          have HI9 := Lib.hid hi
          have hs89 : w8.heap.size ≤ w9.heap.size := b9.size
          have hO9b : ∀ g, v9.ownBlock = some g → w8.heap.size ≤ g := fun g e => (hO9.lt g e).1
          have HO9B := Lib.hid hO9b
          clear hO9 b9 CP hi hO9b
          obtain ⟨X, hX⟩ : ∃ X, X = b ++ R := ⟨_, rfl⟩
          have hcx : chkLs q X = 0 := chkLs_zero.2 ⟨by rw [hX, List.length_append]; omega, hp, fun d hd => by rw [hX] at hd; exact (List.mem_append.1 hd).elim (HF.out.rd.cols d) (CR.out d)⟩
          have HMORE := Lib.hid (show ∀ m, IsRank q X m → m = b.length from by rw [hX]; exact HF.out.more)
          have HX := Lib.hid hX
          clear hX
          rcases hRn with rfl | ⟨ad, rfl⟩
          case' inl =>
            have hR0 : R = [] := by
              obtain ⟨a', n', e, h1, h2, h3⟩ := HR9.out
              injection e with e1 e2 e3
              cases R with
              | nil => rfl
              | cons c R => obtain ⟨g, o, e, -⟩ := h3 (by simp); rw [← e1] at e; cases e
            subst hR0
            have OC : OwnC w9 w8.heap.size v9 X [] := by rw [HX.out, List.append_nil]; exact HO9.out
            have b10 : Below w8.heap.size w8 w9 := HB9.out
            have HOC := Lib.hid OC
            have HB10 := Lib.hid b10
            clear OC b10
            go_wp2_with (at_builtin; refine wpList_append_nil rfl _ _ 24 rfl w8.heap.size 22 i0 1 Tryd.underlying24 hi0 _ _ _ rfl hrow rn rfl ?_)
          case' inr =>
            obtain ⟨us, hul, hu1, hu2, hu3⟩ := HR8.out.cells
            have HU1 := Lib.hid (fun j u hu => (HB9.out.cell (cell_lt (hu1 j u hu))).trans (hu1 j u hu))
            have HU2 := Lib.hid hu2
            have HU3 := Lib.hid hu3
            clear hu1 hu2 hu3
            go_wp2_with (at_builtin; refine wpList_append_own_at _ rfl _ _ 24 rfl w8.heap.size 22 i0 (.slice none 0 0) 1 24 Tryd.underlying24 hi0 hz0 hz1 hz2 rfl (by decide) v9 _ _ rfl hrow ad R.length rn us rfl (by omega) HU1.out HU2.out (by unfold maxLen; omega) (by omega) (by omega) ?_; intro v10 w10 hown' hgrow _ hloc)
            have OC : OwnC w10 w8.heap.size v10 X [] := by rw [HX.out]; exact OwnC.snocs (W := w9) hl hul HI9.out (fun g _ => by simp) (fun i hi => ⟨(HU3.out i hi).below HB9.out, fun h0 g e => ⟨fun e2 => by have h1 := (HU3.out i hi).lt h0 g e; have h2 := HO9B.out g e2; omega, by simp⟩⟩) (fun g hg => absurd hg (by simp)) (Below.refl _ _) hown' hgrow hloc
            have b10 : Below w8.heap.size w8 w10 := HB9.out.grown hgrow hs89 HO9B.out
            have HOC := Lib.hid OC
            have HB10 := Lib.hid b10
            clear OC b10 hown' hgrow hloc
          all_goals
            have RK := Lib.hid (rank_col (q := q) _ X _ (TT.out _ (B8.out.trans (HB10.out.mono B8.out.size))) HOC.out.listV)
            rw [hcx] at RK
            refine Calls.mono RK.out ?_
            rintro e w11 ⟨mm, rfl, hm, -, b11⟩
            obtain rfl := HMORE.out mm (hm rfl)
            have HB11 := Lib.hid (HB10.out.trans (b11.mono HB10.out.size))
            have B11 := Lib.hid (B8.out.trans (HB11.out.mono B8.out.size))
            have SL := Lib.hid (sameList_any _ _ b b w11 (HZo.out.below HB11.out) (HZ8.out.below HB11.out))
            rw [decide_eq_true rfl] at SL
            clear b11 hm RK HOC
            go_wp2_with fail
            refine Calls.mono SL.out ?_
            rintro e w12 ⟨rfl, mq, hmq⟩
            have B12 := Lib.hid (show Below w.heap.size w w12 from by rw [hmq]; exact below_drewN B11.out _)
            clear hmq
            go_wp2_with fail
            refine Calls.mono (AW.out _ B12.out) ?_
            rintro e w13 ⟨rfl, b13⟩
            have B13 := Lib.hid (B12.out.trans (b13.mono B12.out.size))
            clear b13
            go_wp2
            go_ret
            exact ⟨rfl, B13.out⟩
        · obtain ⟨m, rfl⟩ : ∃ m, k = m + 1 := ⟨k - 1, by omega⟩
          obtain rfl : z = (m : Int) := by omega
          have hmR : m < R.length := by omega
          have hm2 : (m : Int) < R.length := by omega
          have hm3 : (0 : Int) ≤ (m : Int) := by omega
          obtain ⟨j, hj⟩ : ∃ j : Nat, (R.length : Int) - 1 - (m : Int) = (j : Int) := ⟨R.length - 1 - m, by omega⟩
          have hjR : j < R.length := by omega
          have hj2 : (j : Int) < R.length := by omega
          have hj3 : (0 : Int) ≤ (j : Int) := by omega
          obtain ⟨ra', rn', hra, r1, r2, r3⟩ := HR6.out
          obtain ⟨g, o, hrg, hg, hc⟩ := r3 (by omega)
          injection hra with e1 e2 e3
          subst e1 e3 hrg
          clear e2 r3
          obtain ⟨um, d0, hTm⟩ := hc m hmR
          obtain ⟨uj, d1, hTj⟩ := hc j hjR
          rw [← getD_of hmR] at hTm
          rw [← getD_of hjR] at hTj
          have cm := CR.out.at_ m
          have cj := CR.out.at_ j
          clear hz hk0
          have hfx : ∃ f, md q f ≠ 0 ∧ ((¬ m < ks.length ∧ f = 1) ∨ (∃ h : m < ks.length, md q ks[m] = 0 ∧ f = 1) ∨ (∃ h : m < ks.length, md q ks[m] ≠ 0 ∧ f = ks[m])) := by
            have h1 : md q 1 ≠ 0 := by rw [md_of, Int.emod_eq_of_lt (by omega) (by omega)]; omega
            by_cases h : m < ks.length
            · by_cases h0 : md q ks[m] = 0
              · exact ⟨1, h1, .inr (.inl ⟨h, h0, rfl⟩)⟩
              · exact ⟨ks[m], h0, .inr (.inr ⟨h, h0, rfl⟩)⟩
            · exact ⟨1, h1, .inl ⟨h, rfl⟩⟩
          obtain ⟨f, hf0, hcase⟩ := hfx
          have SF := Lib.hid (SC.out _ f _ _ B7.out (hTm.below HB.out) cm)
          have OM := Lib.hid (HOB.out.more hp CR.out hmR hjR hf0)
          obtain ⟨C1, hC1⟩ : ∃ C1, C1 = pls q [] f (R.getD m []) := ⟨_, rfl⟩
          obtain ⟨C2, hC2⟩ : ∃ C2, C2 = pls q (R.getD m []) 1 (R.getD j []) := ⟨_, rfl⟩
          rw [← hC1] at SF OM
          rw [← hC2] at OM
          have HC2 := Lib.hid hC2
          have KC := Lib.hid (show ∀ W, Below wm.heap.size wm W → W.cell? ⟨g, o + m, none⟩ = some um ∧ W.cell? ⟨g, o + j, none⟩ = some uj from fun W hb => ⟨(hb.cell (p := ⟨g, o + m, none⟩) hg).trans d0, (hb.cell (p := ⟨g, o + j, none⟩) hg).trans d1⟩)
          replace d0 := (HB.out.cell (p := ⟨g, o + m, none⟩) hg).trans d0
          clear d1
          have HTm := Lib.hid hTm
          have HTj := Lib.hid hTj
          have CM := Lib.hid cm
          have CJ := Lib.hid cj
          have hw1 : IntKind.i64.wrap ((R.length : Int) - 1) = (R.length : Int) - 1 := by rw [IntWalk.i64_left, IntWalk.wrap64_in _ (by omega)]
          have hw2 : IntKind.i64.wrap ((R.length : Int) - 1 - (m : Int)) = (j : Int) := by rw [IntWalk.i64_left, IntWalk.wrap64_in _ (by omega), hj]
          clear hj hC1 hC2 hTm hTj cm cj hf0 hc
          rcases hcase with ⟨c1, rfl⟩ | ⟨c1, c2, rfl⟩ | ⟨c1, c2, rfl⟩
          case' inl =>
            have d2 : decide ((m : Int) < ks.length) = false := decide_eq_false (by omega)
            go_wp2_with fail
          case' inr.inl =>
            obtain ⟨kg, ko, rfl, hkg, hkc⟩ := K3.out (by omega)
            have e0 := (B7.out.cell (p := ⟨kg, ko + m, none⟩) hkg).trans (hkc m c1)
            have MM := Lib.hid (MK.out wr ks[m])
            rw [c2] at MM
            obtain ⟨x, hx⟩ : ∃ x, x = ks[m] := ⟨_, rfl⟩
            rw [← hx] at e0 MM
            have d2 : (m : Int) < ks.length := by omega
            clear hkc c2 hx
            go_wp2_with (go_at_call 46; refine Calls.mono MM.out ?_; rintro e w' ⟨rfl, rfl⟩)
          case' inr.inr =>
            obtain ⟨kg, ko, rfl, hkg, hkc⟩ := K3.out (by omega)
            have e0 := (B7.out.cell (p := ⟨kg, ko + m, none⟩) hkg).trans (hkc m c1)
            have MM := Lib.hid (MK.out wr ks[m])
            obtain ⟨x, hx⟩ : ∃ x, x = ks[m] := ⟨_, rfl⟩
            rw [← hx] at e0 MM c2 SF
            obtain ⟨y, hy⟩ : ∃ y, y = md q x := ⟨_, rfl⟩
            rw [← hy] at MM c2
            have d2 : (m : Int) < ks.length := by omega
            have d3 : (y == 0) = false := beq_eq_false_iff_ne.2 c2
            clear hkc hx hy
            go_wp2_with (go_at_call 46; refine Calls.mono MM.out ?_; rintro e w' ⟨rfl, rfl⟩)
          all_goals
            refine Calls.mono SF.out ?_
            rintro e w8 ⟨v8, rfl, hT8, hk8, b8⟩
            obtain ⟨s8, n8, rfl⟩ := slice_of hT8
            have HB8 := Lib.hid (HB.out.trans (b8.mono HB.out.size))
            have B8 := Lib.hid (B7.out.trans (b8.mono B7.out.size))
            have O8 := Lib.hid (HO.out.below b8)
            obtain ⟨ts, hl, hrow, hi⟩ := O8.out.ex
            have HVB := Lib.hid (fun g e => (O8.out.lt g e).1)
            have HVL := Lib.hid (fun g e => (O8.out.lt g e).2)
            have HV0 := Lib.hid (fun g e => (HO.out.lt g e).2)
            have KR := Lib.hid (fun W (hb : Below w8.heap.size w8 W) => row_below hrow hb)
            have HI8 := Lib.hid hi
            have hs8 : wr.heap.size ≤ w8.heap.size := b8.size
            have HT8 := Lib.hid hT8
            have HK8 := Lib.hid hk8
            have PW := Lib.hid (fun W (hb : Below w8.heap.size w8 W) => (show Calls Tryd.prog 47 #[.int .i64 q, um, .int .i64 1, uj] W (GivesC C2 W) from by
              have h := PL.out W 1 um uj _ _ (B8.out.trans (hb.mono B8.out.size)) ((HTm.out.below HB8.out).below hb) ((HTj.out.below HB8.out).below hb) CM.out CJ.out
              rwa [← HC2.out] at h))
            have HW := HB8
            have HV := Lib.hid (Below.refl w8.heap.size w8)
            clear hT8 hk8 b8 SF hrow hi d0
            go_wp2
            go_region_held3 (fun W => W.cell? ⟨g, o + m, none⟩ = some um ∧ W.cell? ⟨g, o + j, none⟩ = some uj) (exact KC.out _ (by ((repeat (first | (with_reducible apply bel_drew) | (with_reducible apply bel_alloc))); with_reducible exact HW.out))) (first | (go_at_call 47; (with_reducible refine Calls.mono (PW.out _ (by ((repeat (with_reducible apply bel_drew)); with_reducible exact HV.out))) ?_); rintro e wb ⟨vb, rfl, tb, kb, bb⟩; obtain ⟨sb, nb, rfl⟩ := slice_of tb; have Tb := Lib.hid tb; have Kb := Lib.hid kb; replace HW := Lib.hid ((show Below wm.heap.size wm _ from (by ((repeat (with_reducible apply bel_drew)); with_reducible exact HW.out))).trans (bb.mono (Below.size (by ((repeat (with_reducible apply bel_drew)); with_reducible exact HW.out))))); replace HV := Lib.hid ((show Below w8.heap.size w8 _ from (by ((repeat (with_reducible apply bel_drew)); with_reducible exact HV.out))).trans (bb.mono (Below.size (by ((repeat (with_reducible apply bel_drew)); with_reducible exact HV.out))))); clear tb kb bb) | (refine step_append_lies _ rfl _ _ 24 rfl wm.heap.size 22 i0 (.slice none 0 0) 1 24 Tryd.underlying24 hi0 hz0 hz1 hz2 rfl (by decide) u19 _ _ rfl ((KR.out wb HV.out).alloc _) ⟨wb.heap.size, 0, none⟩ 2 2 [.slice s8 C1.length n8, .slice sb C2.length nb] rfl rfl (two_at _ _ _ _) (by simp [Value.oneCell']) (by decide) (by unfold maxLen; omega) (by omega) (by have := HW.out.size; simp; omega) _ rfl ?_; intro gx cap w10 hown' hgrow hloc hgx; have HOWN := Lib.hid hown'; have HG := Lib.hid hgrow; have HLC := Lib.hid hloc; have HWB := HW; replace HW := Lib.hid (HWB.out.grown ((World.grownBy_alloc wb (.cells #[.slice s8 C1.length n8, .slice sb C2.length nb] 22) _).trans hgrow) HWB.out.size HVB.out); clear hown' hgrow hloc) | fail)
            have nin : ∀ (u : Value) (c : List Tm), (∀ g, u.ownBlock = some g → wr.heap.size ≤ g) → (c ≠ [] → ∀ g, u.ownBlock = some g → u19.ownBlock ≠ some g ∧ g ∉ ([] : List Nat)) := fun u c h _ g e => ⟨fun e2 => by have h1 := h g e; have h2 := HV0.out g e2; omega, by simp⟩
            have k9 : ∀ g, (Value.slice sb C2.length nb).ownBlock = some g → wr.heap.size ≤ g := fun g e => Nat.le_trans hs8 (Kb.out g e)
            have OC : OwnC w10 wm.heap.size (.slice (some ⟨gx, 0, none⟩) (O.length + 2) cap) (O ++ [C1, C2]) [] := OwnC.snocs (us := [.slice s8 C1.length n8, .slice sb C2.length nb]) (W := wb) hl rfl (fun i hi => ⟨(HI8.out i hi).1.below HV.out, (HI8.out i hi).2⟩) (fun g _ => by simp) (two_in (P := fun u c => TermsV wb u c ∧ (c ≠ [] → ∀ g, u.ownBlock = some g → u19.ownBlock ≠ some g ∧ g ∉ ([] : List Nat))) ⟨HT8.out.below HV.out, nin _ _ HK8.out⟩ ⟨Tb.out, nin _ _ k9⟩) (fun g hg => absurd hg (by simp)) ((Below.refl _ wb).alloc (Nat.le_refl _) _) HOWN.out HG.out (HLC.out.elim (fun e => .inl (by rw [e]; rfl)) (fun e => .inr (by rw [e]; rfl)))
            have HOC := Lib.hid OC
            clear nin k9 OC HOWN HG HLC
            go_wp2
            exact ⟨⟨m, (m : Int) - 1, O ++ [C1, C2], by omega, rfl, rfl, HOC.out, OM.out, HW.out⟩, by simp [intOf]⟩
end Go.Proofs.YtdhcffboaiajeaaDoor
