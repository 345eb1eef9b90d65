/-
  Cases of number.divMod.
-/
import Derived.Test.YtphbfjcaehiboaaGreatDoorZg
namespace Go.Proofs.YtphbfjcaehiboaaGreatDoor
open Go.RowKit

set_option maxHeartbeats 40000000 in
set_option maxRecDepth 100000 in
theorem dm_ff1 (u v : Value) (x y n m : Int) (w : World) (hu : NatV w u x) (hv : NatV w v y) (hy : 0 < y) (hx9 : nl x ≤ 40000) (hy9 : nl y ≤ 40000) (hn : x / y = n) (hm : x % y = m) (hm0 : 0 < m) :
    Calls Tryz.prog 59 #[.agg #[u, .bool false], .agg #[v, .bool false]] w (GivesZZ (n) (m) w) := by
  have hym := Int.emod_lt_of_pos x hy
  have hnb : 0 ≤ n ∧ n ≤ x := by rw [← hn]; exact ⟨Int.ediv_nonneg hu.1 (Int.le_of_lt hy), Int.ediv_le_self _ hu.1⟩
  have hnl : nl n ≤ 40000 := Nat.le_trans (nl_mono hu.1 hnb.2) hx9
  have hml : nl m ≤ 40000 := Nat.le_trans (nl_mono (by omega) (by omega)) hy9
  obtain ⟨a, ln, rfl, hln, _, hx0, _, _⟩ := hu.form
  obtain ⟨c, lm, rfl, hlm, _, hy0, _, _⟩ := hv.form
  have HLN := Lib.hid hln
  have HLM := Lib.hid hlm
  obtain ⟨W0, hW0⟩ : ∃ W0, W0 = (((w.alloc (.cells #[.slice a ln ln, .bool false] 66)).alloc (.cells #[.slice c lm lm, .bool false] 66)).alloc (.cells #[.slice none 0 0, .bool false] 66)).alloc (.cells #[.slice none 0 0, .bool false] 66) := ⟨_, rfl⟩
  have hbx := box3 w (.slice a ln ln) false (.slice c lm lm) false 66
  have hal := alloc_below (((w.alloc (.cells #[.slice a ln ln, .bool false] 66)).alloc (.cells #[.slice c lm lm, .bool false] 66)).alloc (.cells #[.slice none 0 0, .bool false] 66)) (.cells #[.slice none 0 0, .bool false] 66)
  have f2 : Res W0 (w.heap.size + 1 + 1 + 1) := by rw [hW0]; exact Res.new _ _ _ (by simp)
  have z0 : W0.heap.size = w.heap.size + 1 + 1 + 1 + 1 := by rw [hW0]; simp
  rw [← hW0] at hal
  have hb0 := hbx.below.trans (hal.mono (by rw [hbx.sz]; omega))
  have hz3 := hbx.sz
  have d00 := (below_at hal 0 (by omega)).trans hbx.u0
  have d01 := (below_at hal 1 (by omega)).trans hbx.u1
  have d10 := (below_at hal 0 (by omega)).trans hbx.v0
  have d11 := (below_at hal 1 (by omega)).trans hbx.v1
  have f1 := hbx.res.below hal (by omega)
  have hdv := divide_any _ _ x y W0 (hu.below hb0) (hv.below hb0) hy (by omega)
  rw [hn, hm] at hdv
  have DV := Lib.hid hdv
  have HV := Lib.hid hv
  have B0 := Lib.hid hb0
  have HM0 := Lib.hid hm0
  have HNB := Lib.hid hnb
  have HNL := Lib.hid hnl
  have HML := Lib.hid hml
  have HYM : Hid (m < y) := by show m < y; omega
  clear hln hlm hu hv hbx hal hb0 hz3 hdv hm0 hnb hnl hml hn hm hym
  go_enter Tryz.func59, Tryz.ntmps59
  go_wp2_with fail
  rw [← hW0]
  clear hW0
  refine DV.out.mono ?_
  rintro e w1 ⟨q1, r1, rfl, hq1, hr1, hb1⟩
  obtain ⟨aq, nq, rfl, hnq, _, _, _, _⟩ := hq1.form
  obtain ⟨ar, nr, rfl, hnr, _, _, _, _⟩ := hr1.form
  have HNQ := Lib.hid hnq
  have HNR := Lib.hid hnr
  have hs1 := hb1.size
  have hds : DS w ((w1.alloc (.cells #[.slice aq nq nq] 64)).alloc (.cells #[.slice ar nr nr] 64)) (.slice a ln ln) (.slice c lm lm) (.slice aq nq nq) (.slice ar nr nr) false false y n m w1.heap.size := by
    have ha := (alloc_below w1 (.cells #[.slice aq nq nq] 64)).trans ((alloc_below _ (.cells #[.slice ar nr nr] 64)).mono (by simp))
    have hk := (slot_new w1 (.slice aq nq nq) 64 w1.heap.size rfl).below (alloc_below _ (.cells #[.slice ar nr nr] 64)) (by simp)
    have hbb := B0.out.trans (hb1.mono (show w.heap.size ≤ W0.heap.size by omega))
    have hba := hb1.trans (ha.mono hs1)
    exact ⟨hbb.trans (ha.mono (by omega)), by omega, by simp, (below_at hba 1 (by omega)).trans d01, (below_at hba 0 (by omega)).trans d10, (below_at hba 1 (by omega)).trans d11, hk.1, (slot_new _ (.slice ar nr nr) 64 (w1.heap.size + 1) (by simp)).1, HV.out.below (hbb.trans (ha.mono (by omega))), hq1.below ha, hr1.below ha, f1.below hba (by omega), f2.below hba (by omega)⟩
  clear hq1 hr1 hb1 hnq hnr d00 d01 d10 d11 f1 f2
  obtain ⟨W1, hW1⟩ : ∃ W1, W1 = ((w1.alloc (.cells #[.slice aq nq nq] 64)).alloc (.cells #[.slice ar nr nr] 64)) := ⟨_, rfl⟩
  rw [← hW1] at hds
  have DSH := Lib.hid hds
  have hk : w1.heap.size ≠ 0 := by omega
  obtain ⟨K, hK⟩ : ∃ K, K = w1.heap.size := ⟨_, rfl⟩
  rw [← hK] at hds DSH
  have e1 := hds.u1
  have e2 := hds.v1
  have e3 := hds.k0
  have e4 := hds.k1
  have hsz := hds.size
  have hlt := hds.lt
  clear hds hk
  have HK0 := Lib.hid hK
  clear hK
  go_wp2_with fail
  have hK := HK0.out
  rw [← hW1, ← hK]
  have HW1 := Lib.hid hW1
  have HK := Lib.hid hK
  clear hW1 hK
  have ST := DSH
  clear DSH
  go_region_held3 (fun W => W.cell? ⟨w.heap.size, 1, none⟩ = some (.bool false) ∧ W.cell? ⟨w.heap.size + 1, 1, none⟩ = some (.bool false) ∧ W.cell? ⟨K, 0, none⟩ = some (.slice aq nq nq) ∧ W.cell? ⟨K + 1, 0, none⟩ = some (.slice ar nr nr)) (first | exact ⟨e1, e2, e3, e4⟩ | exact ⟨k1, k2, k3, k4⟩ | exact ⟨(far2 (by omega)).trans k1, (far2 (by omega)).trans k2, (far2 (by omega)).trans k3, (far2 (by omega)).trans k4⟩ | exact ⟨(far2 (by omega)).trans ((far2 (by omega)).trans k1), (far2 (by omega)).trans ((far2 (by omega)).trans k2), (far2 (by omega)).trans ((far2 (by omega)).trans k3), (far2 (by omega)).trans ((far2 (by omega)).trans k4)⟩) (first | (go_at_call 69; (with_reducible refine Calls.mono (signed_false (.slice aq nq nq) n _ ?hv) ?_); (case hv => first | exact ST.out.nq | exact (ST.out.step (below_drew _)).nq); rintro e wn ⟨vq, rfl, hn5, hb⟩; obtain ⟨sq, hsq⟩ : ∃ sq, sq = decide ((n) < 0) := ⟨_, rfl⟩; rw [← hsq]; have HSQ := Lib.hid hsq; clear hsq; replace hb := below_undrew hb; obtain ⟨aNQ, nNQ, rfl, hf5, _, _, _, _⟩ := hn5.form; have NXNQ := Lib.hid hn5; have HFNQ := Lib.hid hf5; replace ST := Lib.hid (ST.out.step hb); have NQ := NXNQ; have k1 := ST.out.u1; have k2 := ST.out.v1; have k3 := ST.out.k0; have k4 := ST.out.k1; have k5 := ST.out.v0; have g1 := ST.out.f1.c0; have g2 := ST.out.f1.c1; have g3 := ST.out.f1.f0; have g4 := ST.out.f1.f1; have g5 := ST.out.f2.c0; have g6 := ST.out.f2.c1; have g7 := ST.out.f2.f0; have g8 := ST.out.f2.f1; clear hn5 hb NXNQ hf5) | (go_at_call 69; (with_reducible refine Calls.mono (signed_false (.slice ar nr nr) m _ ?hv) ?_); (case hv => first | exact ST.out.nr | exact (ST.out.step (below_drew _)).nr); rintro e wn ⟨vr, rfl, hn5, hb⟩; obtain ⟨sr, hsr⟩ : ∃ sr, sr = decide ((m) < 0) := ⟨_, rfl⟩; rw [← hsr]; have HSR := Lib.hid hsr; clear hsr; obtain ⟨aNR, nNR, rfl, hf5, _, _, _, _⟩ := hn5.form; have NXNR := Lib.hid hn5; have HFNR := Lib.hid hf5; replace ST := Lib.hid (ST.out.step hb); replace NQ := Lib.hid (NQ.out.below hb); have NR := NXNR; have k1 := ST.out.u1; have k2 := ST.out.v1; have k3 := ST.out.k0; have k4 := ST.out.k1; have k5 := ST.out.v0; have g1 := ST.out.f1.c0; have g2 := ST.out.f1.c1; have g3 := ST.out.f1.f0; have g4 := ST.out.f1.f1; have g5 := ST.out.f2.c0; have g6 := ST.out.f2.c1; have g7 := ST.out.f2.f0; have g8 := ST.out.f2.f1; clear hn5 hb NXNR hf5))
  obtain ⟨W3, hW3⟩ : ∃ W3, W3 = ((((wn.setCell ⟨w.heap.size + 1 + 1, 0, none⟩ (.slice aNQ nNQ nNQ)).setCell ⟨w.heap.size + 1 + 1, 1, none⟩ (.bool sq)).setCell ⟨w.heap.size + 1 + 1 + 1, 0, none⟩ (.slice aNR nNR nNR)).setCell ⟨w.heap.size + 1 + 1 + 1, 1, none⟩ (.bool sr)) := ⟨_, rfl⟩
  have hdt := ST.out.put NQ.out NR.out sq sr
  rw [← hW3] at hdt ⊢
  have T3 := Lib.hid hdt
  clear hW3 hdt k1 k2 k3 k4 k5 g1 g2 g3 g4 g5 g6 g7 g8 ST e1 e2 e3 e4 NQ NR
  have k1 := T3.out.t0.1
  have hz0 : decide ((((m).natAbs : Nat) : Int) = 0) = false := by have := HM0.out; simp; omega
  have HZ := Lib.hid hz0
  clear hz0
  go_wp2_with fail
  refine (isZero_any _ _ W3 T3.out.nc).mono ?_
  rintro e w4 ⟨rfl, rfl⟩
  rw [HZ.out]
  have T4 := Lib.hid (T3.out.step (alloc_below W3 (.cells #[.slice aNR nNR nNR] 64)))
  generalize W3.alloc (.cells #[.slice aNR nNR nNR] 64) = W4 at *
  clear k1 T3
  have k1 := T4.out.u1
  have k2 := T4.out.v1
  have q0 := T4.out.r0.1
  have q1 := T4.out.r1.1
  have q2 := T4.out.r0.2
  have q3 := T4.out.r1.2
  have q4 := T4.out.t0.1
  have q5 := T4.out.t1.1
  have q6 := T4.out.t0.2
  have q7 := T4.out.t1.2
  go_wp2
  go_region
  all_goals go_wp2
  have F := ((T4.out.putr T4.out.na sq).putt (T4.out.natr T4.out.nc _ _) sr).step (below_drew _)
  exact bodyPost_ret (v := .tuple #[.agg #[.slice aNQ nNQ nNQ, .bool sq], .agg #[.slice aNR nNR nNR, .bool sr]]) (by simp [results, Tryz.results59, go_sem, F.r0.1, F.r1.1, F.t0.1, F.t1.1]) rfl ⟨_, _, by rw [HSQ.out, HSR.out], F.na, F.nc, F.below⟩
set_option maxHeartbeats 40000000 in
set_option maxRecDepth 100000 in
theorem dm_tt1 (u v : Value) (x y n m : Int) (w : World) (hu : NatV w u x) (hv : NatV w v y) (hy : 0 < y) (hx9 : nl x ≤ 40000) (hy9 : nl y ≤ 40000) (hn : x / y = n) (hm : x % y = m) (hm0 : 0 < m) :
    Calls Tryz.prog 59 #[.agg #[u, .bool true], .agg #[v, .bool true]] w (GivesZZ (n) (-m) w) := by
  have hym := Int.emod_lt_of_pos x hy
  have hnb : 0 ≤ n ∧ n ≤ x := by rw [← hn]; exact ⟨Int.ediv_nonneg hu.1 (Int.le_of_lt hy), Int.ediv_le_self _ hu.1⟩
  have hnl : nl n ≤ 40000 := Nat.le_trans (nl_mono hu.1 hnb.2) hx9
  have hml : nl m ≤ 40000 := Nat.le_trans (nl_mono (by omega) (by omega)) hy9
  obtain ⟨a, ln, rfl, hln, _, hx0, _, _⟩ := hu.form
  obtain ⟨c, lm, rfl, hlm, _, hy0, _, _⟩ := hv.form
  have HLN := Lib.hid hln
  have HLM := Lib.hid hlm
  obtain ⟨W0, hW0⟩ : ∃ W0, W0 = (((w.alloc (.cells #[.slice a ln ln, .bool true] 66)).alloc (.cells #[.slice c lm lm, .bool true] 66)).alloc (.cells #[.slice none 0 0, .bool false] 66)).alloc (.cells #[.slice none 0 0, .bool false] 66) := ⟨_, rfl⟩
  have hbx := box3 w (.slice a ln ln) true (.slice c lm lm) true 66
  have hal := alloc_below (((w.alloc (.cells #[.slice a ln ln, .bool true] 66)).alloc (.cells #[.slice c lm lm, .bool true] 66)).alloc (.cells #[.slice none 0 0, .bool false] 66)) (.cells #[.slice none 0 0, .bool false] 66)
  have f2 : Res W0 (w.heap.size + 1 + 1 + 1) := by rw [hW0]; exact Res.new _ _ _ (by simp)
  have z0 : W0.heap.size = w.heap.size + 1 + 1 + 1 + 1 := by rw [hW0]; simp
  rw [← hW0] at hal
  have hb0 := hbx.below.trans (hal.mono (by rw [hbx.sz]; omega))
  have hz3 := hbx.sz
  have d00 := (below_at hal 0 (by omega)).trans hbx.u0
  have d01 := (below_at hal 1 (by omega)).trans hbx.u1
  have d10 := (below_at hal 0 (by omega)).trans hbx.v0
  have d11 := (below_at hal 1 (by omega)).trans hbx.v1
  have f1 := hbx.res.below hal (by omega)
  have hdv := divide_any _ _ x y W0 (hu.below hb0) (hv.below hb0) hy (by omega)
  rw [hn, hm] at hdv
  have DV := Lib.hid hdv
  have HV := Lib.hid hv
  have B0 := Lib.hid hb0
  have HM0 := Lib.hid hm0
  have HNB := Lib.hid hnb
  have HNL := Lib.hid hnl
  have HML := Lib.hid hml
  have HYM : Hid (m < y) := by show m < y; omega
  clear hln hlm hu hv hbx hal hb0 hz3 hdv hm0 hnb hnl hml hn hm hym
  go_enter Tryz.func59, Tryz.ntmps59
  go_wp2_with fail
  rw [← hW0]
  clear hW0
  refine DV.out.mono ?_
  rintro e w1 ⟨q1, r1, rfl, hq1, hr1, hb1⟩
  obtain ⟨aq, nq, rfl, hnq, _, _, _, _⟩ := hq1.form
  obtain ⟨ar, nr, rfl, hnr, _, _, _, _⟩ := hr1.form
  have HNQ := Lib.hid hnq
  have HNR := Lib.hid hnr
  have hs1 := hb1.size
  have hds : DS w ((w1.alloc (.cells #[.slice aq nq nq] 64)).alloc (.cells #[.slice ar nr nr] 64)) (.slice a ln ln) (.slice c lm lm) (.slice aq nq nq) (.slice ar nr nr) true true y n m w1.heap.size := by
    have ha := (alloc_below w1 (.cells #[.slice aq nq nq] 64)).trans ((alloc_below _ (.cells #[.slice ar nr nr] 64)).mono (by simp))
    have hk := (slot_new w1 (.slice aq nq nq) 64 w1.heap.size rfl).below (alloc_below _ (.cells #[.slice ar nr nr] 64)) (by simp)
    have hbb := B0.out.trans (hb1.mono (show w.heap.size ≤ W0.heap.size by omega))
    have hba := hb1.trans (ha.mono hs1)
    exact ⟨hbb.trans (ha.mono (by omega)), by omega, by simp, (below_at hba 1 (by omega)).trans d01, (below_at hba 0 (by omega)).trans d10, (below_at hba 1 (by omega)).trans d11, hk.1, (slot_new _ (.slice ar nr nr) 64 (w1.heap.size + 1) (by simp)).1, HV.out.below (hbb.trans (ha.mono (by omega))), hq1.below ha, hr1.below ha, f1.below hba (by omega), f2.below hba (by omega)⟩
  clear hq1 hr1 hb1 hnq hnr d00 d01 d10 d11 f1 f2
  obtain ⟨W1, hW1⟩ : ∃ W1, W1 = ((w1.alloc (.cells #[.slice aq nq nq] 64)).alloc (.cells #[.slice ar nr nr] 64)) := ⟨_, rfl⟩
  rw [← hW1] at hds
  have DSH := Lib.hid hds
  have hk : w1.heap.size ≠ 0 := by omega
  obtain ⟨K, hK⟩ : ∃ K, K = w1.heap.size := ⟨_, rfl⟩
  rw [← hK] at hds DSH
  have e1 := hds.u1
  have e2 := hds.v1
  have e3 := hds.k0
  have e4 := hds.k1
  have hsz := hds.size
  have hlt := hds.lt
  clear hds hk
  have HK0 := Lib.hid hK
  clear hK
  go_wp2_with fail
  have hK := HK0.out
  rw [← hW1, ← hK]
  have HW1 := Lib.hid hW1
  have HK := Lib.hid hK
  clear hW1 hK
  have ST := DSH
  clear DSH
  go_region_held3 (fun W => W.cell? ⟨w.heap.size, 1, none⟩ = some (.bool true) ∧ W.cell? ⟨w.heap.size + 1, 1, none⟩ = some (.bool true) ∧ W.cell? ⟨K, 0, none⟩ = some (.slice aq nq nq) ∧ W.cell? ⟨K + 1, 0, none⟩ = some (.slice ar nr nr)) (first | exact ⟨e1, e2, e3, e4⟩ | exact ⟨k1, k2, k3, k4⟩ | exact ⟨(far2 (by omega)).trans k1, (far2 (by omega)).trans k2, (far2 (by omega)).trans k3, (far2 (by omega)).trans k4⟩ | exact ⟨(far2 (by omega)).trans ((far2 (by omega)).trans k1), (far2 (by omega)).trans ((far2 (by omega)).trans k2), (far2 (by omega)).trans ((far2 (by omega)).trans k3), (far2 (by omega)).trans ((far2 (by omega)).trans k4)⟩) (first | (go_at_call 69; (with_reducible refine Calls.mono (signed_false (.slice aq nq nq) n _ ?hv) ?_); (case hv => first | exact ST.out.nq | exact (ST.out.step (below_drew _)).nq); rintro e wn ⟨vq, rfl, hn5, hb⟩; obtain ⟨sq, hsq⟩ : ∃ sq, sq = decide ((n) < 0) := ⟨_, rfl⟩; rw [← hsq]; have HSQ := Lib.hid hsq; clear hsq; replace hb := below_undrew hb; obtain ⟨aNQ, nNQ, rfl, hf5, _, _, _, _⟩ := hn5.form; have NXNQ := Lib.hid hn5; have HFNQ := Lib.hid hf5; replace ST := Lib.hid (ST.out.step hb); have NQ := NXNQ; have k1 := ST.out.u1; have k2 := ST.out.v1; have k3 := ST.out.k0; have k4 := ST.out.k1; have k5 := ST.out.v0; have g1 := ST.out.f1.c0; have g2 := ST.out.f1.c1; have g3 := ST.out.f1.f0; have g4 := ST.out.f1.f1; have g5 := ST.out.f2.c0; have g6 := ST.out.f2.c1; have g7 := ST.out.f2.f0; have g8 := ST.out.f2.f1; clear hn5 hb NXNQ hf5) | (go_at_call 69; (with_reducible refine Calls.mono (signed_true (.slice ar nr nr) m _ ?hv) ?_); (case hv => first | exact ST.out.nr | exact (ST.out.step (below_drew _)).nr); rintro e wn ⟨vr, rfl, hn5, hb⟩; obtain ⟨sr, hsr⟩ : ∃ sr, sr = decide ((-m) < 0) := ⟨_, rfl⟩; rw [← hsr]; have HSR := Lib.hid hsr; clear hsr; obtain ⟨aNR, nNR, rfl, hf5, _, _, _, _⟩ := hn5.form; have NXNR := Lib.hid hn5; have HFNR := Lib.hid hf5; replace ST := Lib.hid (ST.out.step hb); replace NQ := Lib.hid (NQ.out.below hb); have NR := NXNR; have k1 := ST.out.u1; have k2 := ST.out.v1; have k3 := ST.out.k0; have k4 := ST.out.k1; have k5 := ST.out.v0; have g1 := ST.out.f1.c0; have g2 := ST.out.f1.c1; have g3 := ST.out.f1.f0; have g4 := ST.out.f1.f1; have g5 := ST.out.f2.c0; have g6 := ST.out.f2.c1; have g7 := ST.out.f2.f0; have g8 := ST.out.f2.f1; clear hn5 hb NXNR hf5))
  obtain ⟨W3, hW3⟩ : ∃ W3, W3 = ((((wn.setCell ⟨w.heap.size + 1 + 1, 0, none⟩ (.slice aNQ nNQ nNQ)).setCell ⟨w.heap.size + 1 + 1, 1, none⟩ (.bool sq)).setCell ⟨w.heap.size + 1 + 1 + 1, 0, none⟩ (.slice aNR nNR nNR)).setCell ⟨w.heap.size + 1 + 1 + 1, 1, none⟩ (.bool sr)) := ⟨_, rfl⟩
  have hdt := ST.out.put NQ.out NR.out sq sr
  rw [← hW3] at hdt ⊢
  have T3 := Lib.hid hdt
  clear hW3 hdt k1 k2 k3 k4 k5 g1 g2 g3 g4 g5 g6 g7 g8 ST e1 e2 e3 e4 NQ NR
  have k1 := T3.out.t0.1
  have hz0 : decide ((((-m).natAbs : Nat) : Int) = 0) = false := by have := HM0.out; simp; omega
  have HZ := Lib.hid hz0
  clear hz0
  go_wp2_with fail
  refine (isZero_any _ _ W3 T3.out.nc).mono ?_
  rintro e w4 ⟨rfl, rfl⟩
  rw [HZ.out]
  have T4 := Lib.hid (T3.out.step (alloc_below W3 (.cells #[.slice aNR nNR nNR] 64)))
  generalize W3.alloc (.cells #[.slice aNR nNR nNR] 64) = W4 at *
  clear k1 T3
  have k1 := T4.out.u1
  have k2 := T4.out.v1
  have q0 := T4.out.r0.1
  have q1 := T4.out.r1.1
  have q2 := T4.out.r0.2
  have q3 := T4.out.r1.2
  have q4 := T4.out.t0.1
  have q5 := T4.out.t1.1
  have q6 := T4.out.t0.2
  have q7 := T4.out.t1.2
  go_wp2
  go_region
  all_goals go_wp2
  have F := ((T4.out.putr T4.out.na sq).putt (T4.out.natr T4.out.nc _ _) sr).step (below_drew _)
  exact bodyPost_ret (v := .tuple #[.agg #[.slice aNQ nNQ nNQ, .bool sq], .agg #[.slice aNR nNR nNR, .bool sr]]) (by simp [results, Tryz.results59, go_sem, F.r0.1, F.r1.1, F.t0.1, F.t1.1]) rfl ⟨_, _, by rw [HSQ.out, HSR.out], F.na, F.nc, F.below⟩
end Go.Proofs.YtphbfjcaehiboaaGreatDoor
