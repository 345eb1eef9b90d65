/-
  Cases of number.divMod.
-/
import Derived.Test.YtphbfjcaehiboaaGreatDoorZg
namespace Go.Proofs.YtphbfjcaehiboaaGreatDoor
open Go.RowKit

set_option maxHeartbeats 40000000 in
set_option maxRecDepth 100000 in
theorem dm_tf1 (u v : Value) (x y n m : Int) (w : World) (hu : NatV w u x) (hv : NatV w v y) (hy : 0 < y) (hx9 : nl x ≤ 40000) (hy9 : nl y ≤ 40000) (hn : x / y = n) (hm : x % y = m) (hm0 : 0 < m) :
    Calls Tryz.prog 59 #[.agg #[u, .bool true], .agg #[v, .bool false]] w (GivesZZ (-n - 1) (-m + y) w) := by
  have hym := Int.emod_lt_of_pos x hy
  have hnb : 0 ≤ n ∧ n ≤ x := by rw [← hn]; exact ⟨Int.ediv_nonneg hu.1 (Int.le_of_lt hy), Int.ediv_le_self _ hu.1⟩
  have hnl : nl n ≤ 40000 := Nat.le_trans (nl_mono hu.1 hnb.2) hx9
  have hml : nl m ≤ 40000 := Nat.le_trans (nl_mono (by omega) (by omega)) hy9
  obtain ⟨a, ln, rfl, hln, _, hx0, _, _⟩ := hu.form
  obtain ⟨c, lm, rfl, hlm, _, hy0, _, _⟩ := hv.form
  have HLN := Lib.hid hln
  have HLM := Lib.hid hlm
  obtain ⟨W0, hW0⟩ : ∃ W0, W0 = (((w.alloc (.cells #[.slice a ln ln, .bool true] 66)).alloc (.cells #[.slice c lm lm, .bool false] 66)).alloc (.cells #[.slice none 0 0, .bool false] 66)).alloc (.cells #[.slice none 0 0, .bool false] 66) := ⟨_, rfl⟩
  have hbx := box3 w (.slice a ln ln) true (.slice c lm lm) false 66
  have hal := alloc_below (((w.alloc (.cells #[.slice a ln ln, .bool true] 66)).alloc (.cells #[.slice c lm lm, .bool false] 66)).alloc (.cells #[.slice none 0 0, .bool false] 66)) (.cells #[.slice none 0 0, .bool false] 66)
  have f2 : Res W0 (w.heap.size + 1 + 1 + 1) := by rw [hW0]; exact Res.new _ _ _ (by simp)
  have z0 : W0.heap.size = w.heap.size + 1 + 1 + 1 + 1 := by rw [hW0]; simp
  rw [← hW0] at hal
  have hb0 := hbx.below.trans (hal.mono (by rw [hbx.sz]; omega))
  have hz3 := hbx.sz
  have d00 := (below_at hal 0 (by omega)).trans hbx.u0
  have d01 := (below_at hal 1 (by omega)).trans hbx.u1
  have d10 := (below_at hal 0 (by omega)).trans hbx.v0
  have d11 := (below_at hal 1 (by omega)).trans hbx.v1
  have f1 := hbx.res.below hal (by omega)
  have hdv := divide_any _ _ x y W0 (hu.below hb0) (hv.below hb0) hy (by omega)
  rw [hn, hm] at hdv
  have DV := Lib.hid hdv
  have HV := Lib.hid hv
  have B0 := Lib.hid hb0
  have HM0 := Lib.hid hm0
  have HNB := Lib.hid hnb
  have HNL := Lib.hid hnl
  have HML := Lib.hid hml
  have HYM : Hid (m < y) := by show m < y; omega
  clear hln hlm hu hv hbx hal hb0 hz3 hdv hm0 hnb hnl hml hn hm hym
  go_enter Tryz.func59, Tryz.ntmps59
  go_wp2_with fail
  rw [← hW0]
  clear hW0
  refine DV.out.mono ?_
  rintro e w1 ⟨q1, r1, rfl, hq1, hr1, hb1⟩
  obtain ⟨aq, nq, rfl, hnq, _, _, _, _⟩ := hq1.form
  obtain ⟨ar, nr, rfl, hnr, _, _, _, _⟩ := hr1.form
  have HNQ := Lib.hid hnq
  have HNR := Lib.hid hnr
  have hs1 := hb1.size
  have hds : DS w ((w1.alloc (.cells #[.slice aq nq nq] 64)).alloc (.cells #[.slice ar nr nr] 64)) (.slice a ln ln) (.slice c lm lm) (.slice aq nq nq) (.slice ar nr nr) true false y n m w1.heap.size := by
    have ha := (alloc_below w1 (.cells #[.slice aq nq nq] 64)).trans ((alloc_below _ (.cells #[.slice ar nr nr] 64)).mono (by simp))
    have hk := (slot_new w1 (.slice aq nq nq) 64 w1.heap.size rfl).below (alloc_below _ (.cells #[.slice ar nr nr] 64)) (by simp)
    have hbb := B0.out.trans (hb1.mono (show w.heap.size ≤ W0.heap.size by omega))
    have hba := hb1.trans (ha.mono hs1)
    exact ⟨hbb.trans (ha.mono (by omega)), by omega, by simp, (below_at hba 1 (by omega)).trans d01, (below_at hba 0 (by omega)).trans d10, (below_at hba 1 (by omega)).trans d11, hk.1, (slot_new _ (.slice ar nr nr) 64 (w1.heap.size + 1) (by simp)).1, HV.out.below (hbb.trans (ha.mono (by omega))), hq1.below ha, hr1.below ha, f1.below hba (by omega), f2.below hba (by omega)⟩
  clear hq1 hr1 hb1 hnq hnr d00 d01 d10 d11 f1 f2
  obtain ⟨W1, hW1⟩ : ∃ W1, W1 = ((w1.alloc (.cells #[.slice aq nq nq] 64)).alloc (.cells #[.slice ar nr nr] 64)) := ⟨_, rfl⟩
  rw [← hW1] at hds
  have DSH := Lib.hid hds
  have hk : w1.heap.size ≠ 0 := by omega
  obtain ⟨K, hK⟩ : ∃ K, K = w1.heap.size := ⟨_, rfl⟩
  rw [← hK] at hds DSH
  have e1 := hds.u1
  have e2 := hds.v1
  have e3 := hds.k0
  have e4 := hds.k1
  have hsz := hds.size
  have hlt := hds.lt
  clear hds hk
  have HK0 := Lib.hid hK
  clear hK
  go_wp2_with fail
  have hK := HK0.out
  rw [← hW1, ← hK]
  have HW1 := Lib.hid hW1
  have HK := Lib.hid hK
  clear hW1 hK
  have ST := DSH
  clear DSH
  go_region_held3 (fun W => W.cell? ⟨w.heap.size, 1, none⟩ = some (.bool true) ∧ W.cell? ⟨w.heap.size + 1, 1, none⟩ = some (.bool false) ∧ W.cell? ⟨K, 0, none⟩ = some (.slice aq nq nq) ∧ W.cell? ⟨K + 1, 0, none⟩ = some (.slice ar nr nr)) (first | exact ⟨e1, e2, e3, e4⟩ | exact ⟨k1, k2, k3, k4⟩ | exact ⟨(far2 (by omega)).trans k1, (far2 (by omega)).trans k2, (far2 (by omega)).trans k3, (far2 (by omega)).trans k4⟩ | exact ⟨(far2 (by omega)).trans ((far2 (by omega)).trans k1), (far2 (by omega)).trans ((far2 (by omega)).trans k2), (far2 (by omega)).trans ((far2 (by omega)).trans k3), (far2 (by omega)).trans ((far2 (by omega)).trans k4)⟩) (first | (go_at_call 69; (with_reducible refine Calls.mono (signed_true (.slice aq nq nq) n _ ?hv) ?_); (case hv => first | exact ST.out.nq | exact (ST.out.step (below_drew _)).nq); rintro e wn ⟨vq, rfl, hn5, hb⟩; obtain ⟨sq, hsq⟩ : ∃ sq, sq = decide ((-n) < 0) := ⟨_, rfl⟩; rw [← hsq]; have HSQ := Lib.hid hsq; clear hsq; replace hb := below_undrew hb; obtain ⟨aNQ, nNQ, rfl, hf5, _, _, _, _⟩ := hn5.form; have NXNQ := Lib.hid hn5; have HFNQ := Lib.hid hf5; replace ST := Lib.hid (ST.out.step hb); have NQ := NXNQ; have k1 := ST.out.u1; have k2 := ST.out.v1; have k3 := ST.out.k0; have k4 := ST.out.k1; have k5 := ST.out.v0; have g1 := ST.out.f1.c0; have g2 := ST.out.f1.c1; have g3 := ST.out.f1.f0; have g4 := ST.out.f1.f1; have g5 := ST.out.f2.c0; have g6 := ST.out.f2.c1; have g7 := ST.out.f2.f0; have g8 := ST.out.f2.f1; clear hn5 hb NXNQ hf5) | (go_at_call 69; (with_reducible refine Calls.mono (signed_true (.slice ar nr nr) m _ ?hv) ?_); (case hv => first | exact ST.out.nr | exact (ST.out.step (below_drew _)).nr); rintro e wn ⟨vr, rfl, hn5, hb⟩; obtain ⟨sr, hsr⟩ : ∃ sr, sr = decide ((-m) < 0) := ⟨_, rfl⟩; rw [← hsr]; have HSR := Lib.hid hsr; clear hsr; obtain ⟨aNR, nNR, rfl, hf5, _, _, _, _⟩ := hn5.form; have NXNR := Lib.hid hn5; have HFNR := Lib.hid hf5; replace ST := Lib.hid (ST.out.step hb); replace NQ := Lib.hid (NQ.out.below hb); have NR := NXNR; have k1 := ST.out.u1; have k2 := ST.out.v1; have k3 := ST.out.k0; have k4 := ST.out.k1; have k5 := ST.out.v0; have g1 := ST.out.f1.c0; have g2 := ST.out.f1.c1; have g3 := ST.out.f1.f0; have g4 := ST.out.f1.f1; have g5 := ST.out.f2.c0; have g6 := ST.out.f2.c1; have g7 := ST.out.f2.f0; have g8 := ST.out.f2.f1; clear hn5 hb NXNR hf5))
  obtain ⟨W3, hW3⟩ : ∃ W3, W3 = ((((wn.setCell ⟨w.heap.size + 1 + 1, 0, none⟩ (.slice aNQ nNQ nNQ)).setCell ⟨w.heap.size + 1 + 1, 1, none⟩ (.bool sq)).setCell ⟨w.heap.size + 1 + 1 + 1, 0, none⟩ (.slice aNR nNR nNR)).setCell ⟨w.heap.size + 1 + 1 + 1, 1, none⟩ (.bool sr)) := ⟨_, rfl⟩
  have hdt := ST.out.put NQ.out NR.out sq sr
  rw [← hW3] at hdt ⊢
  have T3 := Lib.hid hdt
  clear hW3 hdt k1 k2 k3 k4 k5 g1 g2 g3 g4 g5 g6 g7 g8 ST e1 e2 e3 e4 NQ NR
  have k1 := T3.out.t0.1
  have hz0 : decide ((((-m).natAbs : Nat) : Int) = 0) = false := by have := HM0.out; simp; omega
  have HZ := Lib.hid hz0
  clear hz0
  go_wp2_with fail
  refine (isZero_any _ _ W3 T3.out.nc).mono ?_
  rintro e w4 ⟨rfl, rfl⟩
  rw [HZ.out]
  have T4 := Lib.hid (T3.out.step (alloc_below W3 (.cells #[.slice aNR nNR nNR] 64)))
  generalize W3.alloc (.cells #[.slice aNR nNR nNR] 64) = W4 at *
  clear k1 T3
  have k1 := T4.out.u1
  have k2 := T4.out.v1
  have q0 := T4.out.r0.1
  have q1 := T4.out.r1.1
  have q2 := T4.out.r0.2
  have q3 := T4.out.r1.2
  have q4 := T4.out.t0.1
  have q5 := T4.out.t1.1
  have q6 := T4.out.t0.2
  have q7 := T4.out.t1.2
  go_wp2
  have k3 := T4.out.v0
  have hls : ∀ W u', Below W4.heap.size W4 W → NatV W u' 1 → Calls Tryz.prog 52 #[.agg #[.slice aNQ nNQ nNQ, .bool sq], .agg #[u', .bool false]] W (GivesZ (-n - 1) W) := fun W u' hb h1 => by
    have := less_any (.slice aNQ nNQ nNQ) u' (-n) 1 W (T4.out.na.below hb) h1 (by have := HNL.out; rw [show ((-n).natAbs : Int) = n by have := HNB.out; omega]; omega) (Nat.le_trans (nl_mono (Int.le_of_lt hy) (show ((Int.natAbs 1 : Nat) : Int) ≤ y by simp; omega)) (by omega))
    rwa [show decide ((1 : Int) < 0) = false from rfl, ← HSQ.out] at this
  have hpl : ∀ W, Below W4.heap.size W4 W → Calls Tryz.prog 49 #[.agg #[.slice aNR nNR nNR, .bool sr], .agg #[.slice c lm lm, .bool false]] W (GivesZ (-m + y) W) := fun W hb => by
    have := plus_any (.slice aNR nNR nNR) (.slice c lm lm) (-m) (y) W (T4.out.nc.below hb) (by rw [show ((y).natAbs : Int) = y by omega]; exact T4.out.nv.below hb) (by have := HML.out; rw [show ((-m).natAbs : Int) = m by have := HM0.out; omega]; omega) (by rw [show ((y).natAbs : Int) = y by omega]; omega)
    rwa [show decide (y < 0) = false by exact decide_eq_false (by omega), ← HSR.out] at this
  have LS := Lib.hid hls
  have PL := Lib.hid hpl
  have B4 := Lib.hid (Below.refl W4.heap.size W4)
  clear hls hpl
  try clear HNB HNL HML HYM HM0
  try clear DV HV B0
  try clear hx9 hy9
  try clear hx0 hy0
  try clear z0
  try clear hs1
  try clear hsz hlt
  try clear HLN HLM
  try clear HNQ HNR
  try clear HW1
  try clear HK0
  try clear HK
  try clear HSQ HSR
  try clear HFNQ HFNR
  try clear HZ
  try clear k1
  go_region_with (first | (go_at_call 92; refine (small_any 1 _ (by decide) (by decide)).mono ?_; rintro e w5 ⟨v5, rfl, hn5, hb5⟩; replace hb5 := below_undrew hb5; replace T4 := Lib.hid (T4.out.step hb5); replace B4 := Lib.hid (B4.out.trans hb5); have H5 := Lib.hid hn5; have q0 := T4.out.r0.1; have q1 := T4.out.r1.1; have q2 := T4.out.r0.2; have q3 := T4.out.r1.2; have q4 := T4.out.t0.1; have q5 := T4.out.t1.1; have q6 := T4.out.t0.2; have q7 := T4.out.t1.2; have k3 := T4.out.v0; have k4 := T4.out.v1; clear hn5 hb5) | (go_at_call 52; refine (LS.out _ v5 (by exact B4.out) (by exact H5.out)).mono ?_; rintro e w6 ⟨v6, rfl, hn6, hb6⟩; obtain ⟨s6, hs6⟩ : ∃ s6, s6 = decide ((-n - 1) < 0) := ⟨_, rfl⟩; rw [← hs6]; have HS6 := Lib.hid hs6; obtain ⟨a6, n6, rfl, hf6, _, _, _, _⟩ := hn6.form; have H6 := Lib.hid hn6; have B6 := Lib.hid hb6; replace T4 := Lib.hid (T4.out.step hb6); replace B4 := Lib.hid (B4.out.trans (hb6.mono B4.out.size)); have HF6 := Lib.hid hf6; have q0 := T4.out.r0.1; have q1 := T4.out.r1.1; have q2 := T4.out.r0.2; have q3 := T4.out.r1.2; have q4 := T4.out.t0.1; have q5 := T4.out.t1.1; have q6 := T4.out.t0.2; have q7 := T4.out.t1.2; have k3 := T4.out.v0; have k4 := T4.out.v1; clear hn6 hb6 hs6 hf6) | (go_at_call 49; refine (PL.out _ (by exact B4.out)).mono ?_; rintro e w7 ⟨v7, rfl, hn7, hb7⟩; obtain ⟨s7, hs7⟩ : ∃ s7, s7 = decide ((-m + y) < 0) := ⟨_, rfl⟩; rw [← hs7]; have HS7 := Lib.hid hs7; obtain ⟨a7, n7, rfl, hf7, _, _, _, _⟩ := hn7.form; have H7 := Lib.hid hn7; replace H6 := Lib.hid (H6.out.below hb7); replace T4 := Lib.hid (T4.out.step hb7); have HF7 := Lib.hid hf7; have q0 := T4.out.r0.1; have q1 := T4.out.r1.1; have q2 := T4.out.r0.2; have q3 := T4.out.r1.2; have q4 := T4.out.t0.1; have q5 := T4.out.t1.1; have q6 := T4.out.t0.2; have q7 := T4.out.t1.2; have k3 := T4.out.v0; have k4 := T4.out.v1; clear hn7 hb7 hs7 hf7))
  all_goals
    go_wp2
    have F := (T4.out.putr H6.out s6).putt (T4.out.natr H7.out _ _) s7
    exact bodyPost_ret (v := .tuple #[.agg #[.slice a6 n6 n6, .bool s6], .agg #[.slice a7 n7 n7, .bool s7]]) (by simp [results, Tryz.results59, go_sem, F.r0.1, F.r1.1, F.t0.1, F.t1.1]) rfl ⟨_, _, by rw [HS6.out, HS7.out], F.na, F.nc, F.below⟩
end Go.Proofs.YtphbfjcaehiboaaGreatDoor
