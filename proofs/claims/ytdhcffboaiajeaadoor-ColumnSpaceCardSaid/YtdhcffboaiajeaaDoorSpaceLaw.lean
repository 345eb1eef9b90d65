/-
  ColumnSpace returns true.
-/
import Derived.Test.YtdhcffboaiajeaaDoorSpaceM
namespace Go.Proofs.YtdhcffboaiajeaaDoor
open Go.RowKit M

/-- Three made columns. -/
structure Made (W : World) (q : Int) (v : Value) (a : List Tm) : Prop where
  t : TermsV W v a
  col : Col q a
theorem Made.below {W W' : World} {q : Int} {v : Value} {a : List Tm} (h : Made W q v a) (hb : Below W.heap.size W W') : Made W' q v a := ⟨h.t.below hb, h.col⟩
set_option maxHeartbeats 8000000 in
set_option maxRecDepth 100000 in
theorem spaceLaw (which : Int) (p0 p1 p2 : Option Addr) (n0 n1 n2 : Nat) (c0 c1 c2 : List Tm) (k m : Int) (w : World) (tb : Tab w) (h0 : TermsV w (.slice p0 c0.length n0) c0) (h1 : TermsV w (.slice p1 c1.length n1) c1) (h2 : TermsV w (.slice p2 c2.length n2) c2) :
    Calls Tryd.prog 6 #[.int .i64 which, .agg #[.slice p0 c0.length n0, .slice p1 c1.length n1, .slice p2 c2.length n2], .int .i64 k, .int .i64 m] w fun e w' => e = .returned (.bool true) ∧ Below w.heap.size w w' := by
  have T := Lib.hid tb
  have TT := Lib.hid (fun W (hb : Below w.heap.size w W) => T.out.on hb)
  have AW := Lib.hid (fun W (hb : Below w.heap.size w W) => awake_true W (TT.out W hb))
  have H0 := Lib.hid h0
  have H1 := Lib.hid h1
  have H2 := Lib.hid h2
  have hp := fld_pr which
  obtain ⟨q, hq, hq2⟩ := fld_nat which
  rw [hq] at hp
  haveI : NeZero q := ⟨by omega⟩
  have hpb := pr_bd hp
  obtain ⟨W0, hW0⟩ : ∃ W0, W0 = w.alloc (.cells #[.slice p0 c0.length n0, .slice p1 c1.length n1, .slice p2 c2.length n2] 56) := ⟨_, rfl⟩
  have B0 : Below w.heap.size w W0 := by rw [hW0]; exact (Below.refl _ w).alloc (Nat.le_refl _) _
  have FA := Lib.hid (field_any which W0)
  replace FA := Lib.hid (hq ▸ FA.out)
  have d0 : W0.cell? ⟨w.heap.size, 0, none⟩ = some (.slice p0 c0.length n0) := by rw [hW0, World.cell?_alloc_at _ _ _ _ rfl]; rfl
  have d1 : W0.cell? ⟨w.heap.size, 1, none⟩ = some (.slice p1 c1.length n1) := by rw [hW0, World.cell?_alloc_at _ _ _ _ rfl]; rfl
  have d2 : W0.cell? ⟨w.heap.size, 2, none⟩ = some (.slice p2 c2.length n2) := by rw [hW0, World.cell?_alloc_at _ _ _ _ rfl]; rfl
  have z0 : w.heap.size < W0.heap.size := by rw [hW0, World.size_alloc]; omega
  clear tb h0 h1 h2 hq
  go_enter Tryd.func6, Tryd.ntmps6
  go_wp2_with fail
  rw [← hW0]
  clear hW0
  refine Calls.mono FA.out ?_
  rintro e w1 ⟨rfl, b1⟩
  have B1 := Lib.hid (B0.trans (b1.mono B0.size))
  have KC := Lib.hid (show ∀ W, Below w1.heap.size w1 W → (W.cell? ⟨w.heap.size, 0, none⟩ = some (.slice p0 c0.length n0) ∧ W.cell? ⟨w.heap.size, 1, none⟩ = some (.slice p1 c1.length n1)) ∧ W.cell? ⟨w.heap.size, 2, none⟩ = some (.slice p2 c2.length n2) from fun W hb => by
    have s1 := b1.size
    have e : ∀ {i : Nat} {u : Value}, W0.cell? ⟨w.heap.size, i, none⟩ = some u → W.cell? ⟨w.heap.size, i, none⟩ = some u := fun {i u} h => (hb.cell (p := ⟨w.heap.size, i, none⟩) (Nat.lt_of_lt_of_le z0 s1)).trans ((b1.cell (p := ⟨w.heap.size, i, none⟩) z0).trans h)
    exact ⟨⟨e d0, e d1⟩, e d2⟩)
  have F0 := Lib.hid (fun W (hb : Below w1.heap.size w1 W) => fit_any q _ c0 W hp (H0.out.below (B1.out.trans (hb.mono B1.out.size))))
  have F1 := Lib.hid (fun W (hb : Below w1.heap.size w1 W) => fit_any q _ c1 W hp (H1.out.below (B1.out.trans (hb.mono B1.out.size))))
  have F2 := Lib.hid (fun W (hb : Below w1.heap.size w1 W) => fit_any q _ c2 W hp (H2.out.below (B1.out.trans (hb.mono B1.out.size))))
  have HW := Lib.hid (Below.refl w1.heap.size w1)
  clear d0 d1 d2 z0 b1 FA B0
  go_wp2_with fail
  go_region_held3 (fun W => (W.cell? ⟨w.heap.size, 0, none⟩ = some (.slice p0 c0.length n0) ∧ W.cell? ⟨w.heap.size, 1, none⟩ = some (.slice p1 c1.length n1)) ∧ W.cell? ⟨w.heap.size, 2, none⟩ = some (.slice p2 c2.length n2)) (exact KC.out _ (by ((repeat (with_reducible apply bel_drew)); with_reducible exact HW.out))) (first | (go_at_call 45; (with_reducible refine Calls.mono (F0.out _ (by ((repeat (with_reducible apply bel_drew)); with_reducible exact HW.out))) ?_); rintro e wa ⟨va, ra, rfl, ta, ka, -, -, ba⟩; have Ta := Lib.hid ta; have Ka := Lib.hid ka; replace HW := Lib.hid ((show Below w1.heap.size w1 _ from (by ((repeat (with_reducible apply bel_drew)); with_reducible exact HW.out))).trans (ba.mono (Below.size (by ((repeat (with_reducible apply bel_drew)); with_reducible exact HW.out))))); clear ta ka ba) | (go_at_call 45; (with_reducible refine Calls.mono (F1.out _ (by ((repeat (with_reducible apply bel_drew)); with_reducible exact HW.out))) ?_); rintro e wb ⟨vb, rb, rfl, tb, kb, -, -, bb⟩; replace Ta := Lib.hid (show TermsV wb va ra from TermsV.below (by exact Ta.out) bb); have Tb := Lib.hid tb; have Kb := Lib.hid kb; replace HW := Lib.hid ((show Below w1.heap.size w1 _ from (by ((repeat (with_reducible apply bel_drew)); with_reducible exact HW.out))).trans (bb.mono (Below.size (by ((repeat (with_reducible apply bel_drew)); with_reducible exact HW.out))))); clear tb kb bb) | (go_at_call 45; (with_reducible refine Calls.mono (F2.out _ (by ((repeat (with_reducible apply bel_drew)); with_reducible exact HW.out))) ?_); rintro e wc ⟨vc, rc, rfl, tc, kc, -, -, bc⟩; replace Ta := Lib.hid (show TermsV wc va ra from TermsV.below (by exact Ta.out) bc); replace Tb := Lib.hid (show TermsV wc vb rb from TermsV.below (by exact Tb.out) bc); have Tc := Lib.hid tc; have Kc := Lib.hid kc; replace HW := Lib.hid ((show Below w1.heap.size w1 _ from (by ((repeat (with_reducible apply bel_drew)); with_reducible exact HW.out))).trans (bc.mono (Below.size (by ((repeat (with_reducible apply bel_drew)); with_reducible exact HW.out))))); clear tc kc bc) | fail)

  -- behind region 2
  have PL := Lib.hid (fun W (k : Int) va vb a b (hb : Below w.heap.size w W) (ha : TermsV W va a) (hb' : TermsV W vb b) (ca : Col q a) (cb : Col q b) => (show Calls Tryd.prog 47 #[.int .i64 q, va, .int .i64 k, vb] W (GivesC (pls q a k b) W) from by
    have h := plusL_any q k va vb a b W (TT.out W hb) ha hb'
    rwa [if_pos (chk2_zero.2 ⟨hp, ca, cb⟩)] at h))
  have SC := Lib.hid (fun W (k : Int) va a (hb : Below w.heap.size w W) (ha : TermsV W va a) (ca : Col q a) => (show Calls Tryd.prog 23 #[.int .i64 q, va, .int .i64 k] W (GivesCE (pls q [] k a) 0 W) from by
    have h := scale_col q k va a W (TT.out W hb) ha
    rwa [chk_zero.2 ⟨hp, ca⟩, if_pos rfl] at h))
  have DO := Lib.hid (fun W va vb a b (hb : Below w.heap.size w W) (ha : TermsV W va a) (hb' : TermsV W vb b) (ca : Col q a) (cb : Col q b) => (show Calls Tryd.prog 26 #[.int .i64 q, va, vb] W (fun e w' => e = .returned (.tuple #[.int .i64 (md q (dsum a b)), .int .i64 0]) ∧ Below W.heap.size W w') from by
    have h := dot_col q va vb a b W (TT.out W hb) ha hb'
    rwa [chk2_zero.2 ⟨hp, ca, cb⟩, if_pos rfl] at h))
  have SM := Lib.hid (fun W va vb (a : List Tm) (ha : TermsV W va a) (hb : TermsV W vb a) => (show Calls Tryd.prog 25 #[va, vb] W (fun e w' => e = .returned (.bool true) ∧ ∃ m, w' = W.drewN m) from by
    have h := same_any va vb a a W ha hb
    rwa [decide_eq_true rfl] at h))
  have MK := Lib.hid (fun W => rmod_ok q k W hp)
  have MM := Lib.hid (fun W => rmod_ok q m W hp)
  have hkb := md_bd hp k
  have hmb := md_bd hp m
  obtain ⟨kk, hkk⟩ : ∃ kk, kk = md q k := ⟨_, rfl⟩
  obtain ⟨mm, hmm⟩ : ∃ mm, mm = md q m := ⟨_, rfl⟩
  rw [← hkk] at MK hkb
  rw [← hmm] at MM hmb
  have wk : IntKind.i64.wrap (kk + mm) = kk + mm := (by rw [IntWalk.i64_left, IntWalk.wrap64_in _ (by omega)])
  clear hkk hmm KC F0 F1 F2
  go_wp2_with fail
  refine Calls.mono (MK.out _) ?_
  rintro e w' ⟨rfl, rfl⟩
  go_wp2_with fail
  refine Calls.mono (MM.out _) ?_
  rintro e w' ⟨rfl, rfl⟩

  go_wp2_with fail
  refine Calls.mono (PL.out _ 1 _ _ _ _ (B1.out.trans ((show Below w1.heap.size w1 _ from (by ((repeat (with_reducible apply bel_drew)); with_reducible exact HW.out))).mono B1.out.size)) (by exact Ta.out) (by exact Tb.out) Ka.out Kb.out) ?_
  rintro e x1 ⟨v1, rfl, t1, -, b1⟩
  have B := Lib.hid (show Below w.heap.size w x1 from (B1.out.trans ((show Below w1.heap.size w1 _ from (by ((repeat (with_reducible apply bel_drew)); with_reducible exact HW.out))).mono B1.out.size)).trans (b1.mono ((B1.out.trans ((show Below w1.heap.size w1 _ from (by ((repeat (with_reducible apply bel_drew)); with_reducible exact HW.out))).mono B1.out.size))).size))
  replace Ta := Lib.hid (show TermsV x1 _ _ from TermsV.below (by exact Ta.out) b1)
  replace Tb := Lib.hid (show TermsV x1 _ _ from TermsV.below (by exact Tb.out) b1)
  replace Tc := Lib.hid (show TermsV x1 _ _ from TermsV.below (by exact Tc.out) b1)
  have X1 := Lib.hid t1
  clear t1 b1
  go_wp2_with fail
  refine Calls.mono (PL.out _ 1 _ _ _ _ B.out Tb.out Ta.out Kb.out Ka.out) ?_
  rintro e x2 ⟨v2, rfl, t2, -, b2⟩
  rw [← pls_comm hp Ka.out Kb.out] at t2
  replace B := Lib.hid (B.out.trans (b2.mono B.out.size))
  replace Ta := Lib.hid (Ta.out.below b2)
  replace Tb := Lib.hid (Tb.out.below b2)
  replace Tc := Lib.hid (Tc.out.below b2)
  replace X1 := Lib.hid (X1.out.below b2)
  have X2 := Lib.hid t2
  clear t2 b2
  go_wp2_with fail
  refine Calls.mono (SM.out _ _ _ _ X1.out X2.out) ?_
  rintro e x3 ⟨rfl, m3, h3⟩
  have b3 : Below x2.heap.size x2 x3 := by rw [h3]; exact below_drewN (Below.refl _ _) _
  clear X1
  clear X2
  replace B := Lib.hid (B.out.trans (b3.mono B.out.size))
  replace Ta := Lib.hid (Ta.out.below b3)
  replace Tb := Lib.hid (Tb.out.below b3)
  replace Tc := Lib.hid (Tc.out.below b3)
  clear h3 b3
  go_wp2_with fail
  refine Calls.mono (PL.out _ 1 _ _ _ _ B.out Ta.out Tb.out Ka.out Kb.out) ?_
  rintro e x4 ⟨v4, rfl, t4, -, b4⟩
  replace B := Lib.hid (B.out.trans (b4.mono B.out.size))
  replace Ta := Lib.hid (Ta.out.below b4)
  replace Tb := Lib.hid (Tb.out.below b4)
  replace Tc := Lib.hid (Tc.out.below b4)
  have X1 := Lib.hid t4
  clear t4 b4
  go_wp2_with fail
  refine Calls.mono (PL.out _ 1 _ _ _ _ B.out X1.out Tc.out (pls_col hp _ _ _) Kc.out) ?_
  rintro e x5 ⟨v5, rfl, t5, -, b5⟩
  replace B := Lib.hid (B.out.trans (b5.mono B.out.size))
  replace Ta := Lib.hid (Ta.out.below b5)
  replace Tb := Lib.hid (Tb.out.below b5)
  replace Tc := Lib.hid (Tc.out.below b5)
  replace X1 := Lib.hid (X1.out.below b5)
  have X2 := Lib.hid t5
  clear t5 b5
  go_wp2_with fail
  refine Calls.mono (PL.out _ 1 _ _ _ _ B.out Tb.out Tc.out Kb.out Kc.out) ?_
  rintro e x6 ⟨v6, rfl, t6, -, b6⟩
  replace B := Lib.hid (B.out.trans (b6.mono B.out.size))
  replace Ta := Lib.hid (Ta.out.below b6)
  replace Tb := Lib.hid (Tb.out.below b6)
  replace Tc := Lib.hid (Tc.out.below b6)
  replace X1 := Lib.hid (X1.out.below b6)
  replace X2 := Lib.hid (X2.out.below b6)
  have X3 := Lib.hid t6
  clear t6 b6
  go_wp2_with fail
  refine Calls.mono (PL.out _ 1 _ _ _ _ B.out Ta.out X3.out Ka.out (pls_col hp _ _ _)) ?_
  rintro e x7 ⟨v7, rfl, t7, -, b7⟩
  rw [← pls_assoc hp Ka.out Kb.out Kc.out] at t7
  replace B := Lib.hid (B.out.trans (b7.mono B.out.size))
  replace Ta := Lib.hid (Ta.out.below b7)
  replace Tb := Lib.hid (Tb.out.below b7)
  replace Tc := Lib.hid (Tc.out.below b7)
  replace X1 := Lib.hid (X1.out.below b7)
  replace X2 := Lib.hid (X2.out.below b7)
  replace X3 := Lib.hid (X3.out.below b7)
  have X4 := Lib.hid t7
  clear t7 b7
  go_wp2_with fail
  refine Calls.mono (SM.out _ _ _ _ X2.out X4.out) ?_
  rintro e x8 ⟨rfl, m8, h8⟩
  have b8 : Below x7.heap.size x7 x8 := by rw [h8]; exact below_drewN (Below.refl _ _) _
  clear X1
  clear X2
  clear X3
  clear X4
  replace B := Lib.hid (B.out.trans (b8.mono B.out.size))
  replace Ta := Lib.hid (Ta.out.below b8)
  replace Tb := Lib.hid (Tb.out.below b8)
  replace Tc := Lib.hid (Tc.out.below b8)
  clear h8 b8
  go_wp2_with fail
  refine Calls.mono (PL.out _ (-1) _ _ _ _ B.out Ta.out Ta.out Ka.out Ka.out) ?_
  rintro e x9 ⟨v9, rfl, t9, -, b9⟩
  rw [pls_neg hp Ka.out] at t9
  obtain ⟨s9, l9, rfl⟩ := slice_of t9
  replace B := Lib.hid (B.out.trans (b9.mono B.out.size))
  replace Ta := Lib.hid (Ta.out.below b9)
  replace Tb := Lib.hid (Tb.out.below b9)
  replace Tc := Lib.hid (Tc.out.below b9)
  clear t9 b9
  go_wp2_with fail
  refine Calls.mono (PL.out _ 1 _ _ _ _ B.out Ta.out (TermsV.nil _) Ka.out trivial) ?_
  rintro e x10 ⟨v10, rfl, t10, -, b10⟩
  rw [pls_nil hp Ka.out] at t10
  replace B := Lib.hid (B.out.trans (b10.mono B.out.size))
  replace Ta := Lib.hid (Ta.out.below b10)
  replace Tb := Lib.hid (Tb.out.below b10)
  replace Tc := Lib.hid (Tc.out.below b10)
  have X1 := Lib.hid t10
  clear t10 b10
  go_wp2_with fail
  refine Calls.mono (SM.out _ _ _ _ X1.out Ta.out) ?_
  rintro e x11 ⟨rfl, m11, h11⟩
  have b11 : Below x10.heap.size x10 x11 := by rw [h11]; exact below_drewN (Below.refl _ _) _
  clear X1
  replace B := Lib.hid (B.out.trans (b11.mono B.out.size))
  replace Ta := Lib.hid (Ta.out.below b11)
  replace Tb := Lib.hid (Tb.out.below b11)
  replace Tc := Lib.hid (Tc.out.below b11)
  clear h11 b11
  go_wp2_with fail
  refine Calls.mono (PL.out _ kk _ _ _ _ B.out Ta.out Tb.out Ka.out Kb.out) ?_
  rintro e x12 ⟨v12, rfl, t12, -, b12⟩
  replace B := Lib.hid (B.out.trans (b12.mono B.out.size))
  replace Ta := Lib.hid (Ta.out.below b12)
  replace Tb := Lib.hid (Tb.out.below b12)
  replace Tc := Lib.hid (Tc.out.below b12)
  have X1 := Lib.hid t12
  clear t12 b12
  go_wp2_with fail
  refine Calls.mono (PL.out _ mm _ _ _ _ B.out X1.out Tb.out (pls_col hp _ _ _) Kb.out) ?_
  rintro e x13 ⟨v13, rfl, t13, -, b13⟩
  rw [pls_two hp kk mm Ka.out Kb.out] at t13
  replace B := Lib.hid (B.out.trans (b13.mono B.out.size))
  replace Ta := Lib.hid (Ta.out.below b13)
  replace Tb := Lib.hid (Tb.out.below b13)
  replace Tc := Lib.hid (Tc.out.below b13)
  replace X1 := Lib.hid (X1.out.below b13)
  have X2 := Lib.hid t13
  clear t13 b13
  go_wp2_with fail
  refine Calls.mono (PL.out _ (kk + mm) _ _ _ _ B.out Ta.out Tb.out Ka.out Kb.out) ?_
  rintro e x14 ⟨v14, rfl, t14, -, b14⟩
  replace B := Lib.hid (B.out.trans (b14.mono B.out.size))
  replace Ta := Lib.hid (Ta.out.below b14)
  replace Tb := Lib.hid (Tb.out.below b14)
  replace Tc := Lib.hid (Tc.out.below b14)
  replace X1 := Lib.hid (X1.out.below b14)
  replace X2 := Lib.hid (X2.out.below b14)
  have X3 := Lib.hid t14
  clear t14 b14
  go_wp2_with fail
  refine Calls.mono (SM.out _ _ _ _ X2.out X3.out) ?_
  rintro e x15 ⟨rfl, m15, h15⟩
  have b15 : Below x14.heap.size x14 x15 := by rw [h15]; exact below_drewN (Below.refl _ _) _
  clear X1
  clear X2
  clear X3
  replace B := Lib.hid (B.out.trans (b15.mono B.out.size))
  replace Ta := Lib.hid (Ta.out.below b15)
  replace Tb := Lib.hid (Tb.out.below b15)
  replace Tc := Lib.hid (Tc.out.below b15)
  clear h15 b15
  go_wp2_with fail
  refine Calls.mono (PL.out _ 1 _ _ _ _ B.out Ta.out Tb.out Ka.out Kb.out) ?_
  rintro e x16 ⟨v16, rfl, t16, -, b16⟩
  replace B := Lib.hid (B.out.trans (b16.mono B.out.size))
  replace Ta := Lib.hid (Ta.out.below b16)
  replace Tb := Lib.hid (Tb.out.below b16)
  replace Tc := Lib.hid (Tc.out.below b16)
  have X1 := Lib.hid t16
  clear t16 b16
  go_wp2_with fail
  refine Calls.mono (SC.out _ kk _ _ B.out X1.out (pls_col hp _ _ _)) ?_
  rintro e x17 ⟨v17, rfl, t17, -, b17⟩
  rw [pls_scale hp kk Ka.out Kb.out] at t17
  replace B := Lib.hid (B.out.trans (b17.mono B.out.size))
  replace Ta := Lib.hid (Ta.out.below b17)
  replace Tb := Lib.hid (Tb.out.below b17)
  replace Tc := Lib.hid (Tc.out.below b17)
  replace X1 := Lib.hid (X1.out.below b17)
  have S := Lib.hid t17
  clear t17 b17
  go_wp2_with fail
  refine Calls.mono (SC.out _ kk _ _ B.out Ta.out Ka.out) ?_
  rintro e x18 ⟨v18, rfl, t18, -, b18⟩
  replace B := Lib.hid (B.out.trans (b18.mono B.out.size))
  replace Ta := Lib.hid (Ta.out.below b18)
  replace Tb := Lib.hid (Tb.out.below b18)
  replace Tc := Lib.hid (Tc.out.below b18)
  replace X1 := Lib.hid (X1.out.below b18)
  replace S := Lib.hid (S.out.below b18)
  have U := Lib.hid t18
  clear t18 b18
  go_wp2_with fail
  refine Calls.mono (PL.out _ kk _ _ _ _ B.out Ta.out Tb.out Ka.out Kb.out) ?_
  rintro e x19 ⟨v19, rfl, t19, -, b19⟩
  replace B := Lib.hid (B.out.trans (b19.mono B.out.size))
  replace Ta := Lib.hid (Ta.out.below b19)
  replace Tb := Lib.hid (Tb.out.below b19)
  replace Tc := Lib.hid (Tc.out.below b19)
  replace X1 := Lib.hid (X1.out.below b19)
  replace S := Lib.hid (S.out.below b19)
  replace U := Lib.hid (U.out.below b19)
  have X2 := Lib.hid t19
  clear t19 b19
  go_wp2_with fail
  refine Calls.mono (DO.out _ _ _ _ _ B.out X2.out Tc.out (pls_col hp _ _ _) Kc.out) ?_
  rintro e x20 ⟨rfl, b20⟩
  replace B := Lib.hid (B.out.trans (b20.mono B.out.size))
  replace Ta := Lib.hid (Ta.out.below b20)
  replace Tb := Lib.hid (Tb.out.below b20)
  replace Tc := Lib.hid (Tc.out.below b20)
  replace X1 := Lib.hid (X1.out.below b20)
  replace S := Lib.hid (S.out.below b20)
  replace U := Lib.hid (U.out.below b20)
  replace X2 := Lib.hid (X2.out.below b20)
  clear b20
  go_wp2_with fail
  refine Calls.mono (DO.out _ _ _ _ _ B.out Ta.out Tc.out Ka.out Kc.out) ?_
  rintro e x21 ⟨rfl, b21⟩
  replace B := Lib.hid (B.out.trans (b21.mono B.out.size))
  replace Ta := Lib.hid (Ta.out.below b21)
  replace Tb := Lib.hid (Tb.out.below b21)
  replace Tc := Lib.hid (Tc.out.below b21)
  replace X1 := Lib.hid (X1.out.below b21)
  replace S := Lib.hid (S.out.below b21)
  replace U := Lib.hid (U.out.below b21)
  replace X2 := Lib.hid (X2.out.below b21)
  clear b21
  go_wp2_with fail
  refine Calls.mono (DO.out _ _ _ _ _ B.out Tb.out Tc.out Kb.out Kc.out) ?_
  rintro e x22 ⟨rfl, b22⟩
  replace B := Lib.hid (B.out.trans (b22.mono B.out.size))
  replace Ta := Lib.hid (Ta.out.below b22)
  replace Tb := Lib.hid (Tb.out.below b22)
  replace Tc := Lib.hid (Tc.out.below b22)
  replace X1 := Lib.hid (X1.out.below b22)
  replace S := Lib.hid (S.out.below b22)
  replace U := Lib.hid (U.out.below b22)
  replace X2 := Lib.hid (X2.out.below b22)
  clear b22
  go_wp2_with fail
  refine Calls.mono (DO.out _ _ _ _ _ B.out Tc.out Tb.out Kc.out Kb.out) ?_
  rintro e x23 ⟨rfl, b23⟩
  replace B := Lib.hid (B.out.trans (b23.mono B.out.size))
  replace Ta := Lib.hid (Ta.out.below b23)
  replace Tb := Lib.hid (Tb.out.below b23)
  replace Tc := Lib.hid (Tc.out.below b23)
  replace X1 := Lib.hid (X1.out.below b23)
  replace S := Lib.hid (S.out.below b23)
  replace U := Lib.hid (U.out.below b23)
  replace X2 := Lib.hid (X2.out.below b23)
  clear b23
  have hy := md_bd hp (dsum ra rc)
  have hz := md_bd hp (dsum rb rc)
  rw [dsum_comm Kc.out Kb.out, dot_lin kk hp Ka.out Kb.out]
  obtain ⟨y, hyy⟩ : ∃ y, y = md q (dsum ra rc) := ⟨_, rfl⟩
  obtain ⟨z, hzz⟩ : ∃ z, z = md q (dsum rb rc) := ⟨_, rfl⟩
  rw [← hyy] at hy ⊢
  rw [← hzz] at hz ⊢
  obtain ⟨g1, g2⟩ := prod_bd hkb.1 (show kk ≤ 251 by omega) hz.1 (show z ≤ 251 by omega)
  clear hyy hzz
  go_wp2_with fail
  refine Calls.mono (PL.out _ kk _ _ _ _ B.out U.out Tb.out (pls_col hp _ _ _) Kb.out) ?_
  rintro e x24 ⟨v24, rfl, t24, -, b24⟩
  replace B := Lib.hid (B.out.trans (b24.mono B.out.size))
  replace Ta := Lib.hid (Ta.out.below b24)
  replace Tb := Lib.hid (Tb.out.below b24)
  replace Tc := Lib.hid (Tc.out.below b24)
  replace X1 := Lib.hid (X1.out.below b24)
  replace S := Lib.hid (S.out.below b24)
  replace U := Lib.hid (U.out.below b24)
  replace X2 := Lib.hid (X2.out.below b24)
  have X3 := Lib.hid t24
  clear t24 b24
  go_wp2_with fail
  refine Calls.mono (SM.out _ _ _ _ S.out X3.out) ?_
  rintro e x25 ⟨rfl, m25, h25⟩
  have b25 : Below x24.heap.size x24 x25 := by rw [h25]; exact below_drewN (Below.refl _ _) _
  clear S
  clear X3
  clear U
  clear X2
  replace B := Lib.hid (B.out.trans (b25.mono B.out.size))
  replace Ta := Lib.hid (Ta.out.below b25)
  replace Tb := Lib.hid (Tb.out.below b25)
  replace Tc := Lib.hid (Tc.out.below b25)
  replace X1 := Lib.hid (X1.out.below b25)
  clear h25 b25
  go_wp2_with fail
  refine Calls.mono (AW.out _ B.out) ?_
  rintro e x99 ⟨rfl, b99⟩
  replace B := Lib.hid (B.out.trans (b99.mono B.out.size))
  clear b99
  go_wp2
  go_ret
  exact ⟨rfl, B.out⟩
end Go.Proofs.YtdhcffboaiajeaaDoor
