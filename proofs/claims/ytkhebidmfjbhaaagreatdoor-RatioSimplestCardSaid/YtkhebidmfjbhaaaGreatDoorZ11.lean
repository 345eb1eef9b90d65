/-
  Number.DivMod, a case of the signs.
-/
import Derived.Test.YtkhebidmfjbhaaaGreatDoorZ08
namespace Go.Proofs.YtkhebidmfjbhaaaGreatDoor
open Go.RowKit

set_option maxHeartbeats 4000000 in
set_option maxRecDepth 100000 in
theorem dm_ne0 (p v q u : Value) (b : Bool) (c : Bool) (hc : c = !b) (x y n m X Y : Int) (w : World) (hu : NatV w p v x) (hv : NatV w q u y) (hy : 0 < y) (hx9 : nl x ≤ 40000) (hy9 : nl y ≤ 40000) (hn : x / y = n) (hm : x % y = m) (hm0 : m = 0) (hX : -n = X) (hY : (if b = true then -m else m) = Y) :
    Calls Tryz.prog 152 #[.agg #[p, v, .bool b], .agg #[q, u, .bool c]] w (GivesZZ X Y w) := by
  have hym := Int.emod_lt_of_pos x hy
  have hnb : 0 ≤ n ∧ n ≤ x := by rw [← hn]; exact ⟨Int.ediv_nonneg hu.1 (Int.le_of_lt hy), Int.ediv_le_self _ hu.1⟩
  have hmb : 0 ≤ m := by rw [← hm]; exact Int.emod_nonneg _ (by omega)
  have hnl : nl n ≤ 40000 := Nat.le_trans (nl_mono hu.1 hnb.2) hx9
  have hml : nl m ≤ 40000 := Nat.le_trans (nl_mono (by omega) (by omega)) hy9
  have DV := Lib.hid (fun W (h : Below w.heap.size w W) => divide_any _ _ _ _ x y W (hu.below h) (hv.below h) hy (by omega))
  rw [hn, hm] at DV
  have hV := hv
  obtain ⟨t, a, ln, rfl, rfl, -, -, -, -, -, -⟩ := hu.form
  obtain ⟨s, d, lm, rfl, rfl, -, -, -, -, -, -⟩ := hv.form
  have hB := DT.new w (.int .u64 t) (.slice a ln ln) b (.int .u64 s) (.slice d lm lm) c y hV 74
  obtain ⟨W0, hW0⟩ : ∃ W0, W0 = ((((w.alloc (.cells #[.int .u64 t, .slice a ln ln, .bool b] 74)).alloc (.cells #[.int .u64 s, .slice d lm lm, .bool c] 74)).alloc (.cells #[.int .u64 0, .slice none 0 0, .bool false] 74)).alloc (.cells #[.int .u64 0, .slice none 0 0, .bool false] 74)) := ⟨_, rfl⟩
  rw [← hW0] at hB
  have D0 := Lib.hid hB
  have c00 := hB.p0
  have c01 := hB.p1
  have c10 := hB.q0
  have c11 := hB.q1
  have hbc : (b == c) = false := by subst hc; cases b <;> rfl
  have HCB := Lib.hid hc
  have HX := Lib.hid hX
  have HY := Lib.hid hY
  have HM0 := Lib.hid hm0
  have HNB := Lib.hid hnb
  have HMB := Lib.hid hmb
  have HNL := Lib.hid hnl
  have HML := Lib.hid hml
  have HYM : Hid (m < y) := by show m < y; omega
  have HY9 := Lib.hid hy9
  clear hu hv hV hB hm0 hnb hnl hml hn hm hym hX hY hx9 hy9 hmb hc
  go_enter Tryz.func152, Tryz.ntmps152
  go_wp2_with fail
  rw [← hW0]
  clear hW0
  refine (DV.out _ D0.out.below).mono ?_
  rintro e w1 ⟨q1, q2, r1, r2, rfl, hq1, hr1, hb1⟩
  have hds := (D0.out.step hb1).box hq1 hr1 72
  obtain ⟨n1, aq, nq, rfl, rfl, -, -, -, -, -, -⟩ := hq1.form
  obtain ⟨m1, ar, nr, rfl, rfl, -, -, -, -, -, -⟩ := hr1.form
  obtain ⟨K, hK⟩ : ∃ K, K = w1.heap.size := ⟨_, rfl⟩
  obtain ⟨W1, hW1⟩ : ∃ W1, W1 = ((w1.alloc (.cells #[.int .u64 n1, .slice aq nq nq] 72)).alloc (.cells #[.int .u64 m1, .slice ar nr nr] 72)) := ⟨_, rfl⟩
  rw [← hW1, ← hK] at hds
  have ST := Lib.hid hds
  have HK := Lib.hid hK
  have HW1 := Lib.hid hW1
  clear hq1 hr1 hb1 c00 c01 c10 c11 D0 hds hK hW1
  have e1 := ST.out.dt.p2
  have e2 := ST.out.dt.q2
  have e3 := ST.out.k0
  have e4 := ST.out.k1
  have e5 := ST.out.l0
  have e6 := ST.out.l1
  have hsz := ST.out.gt
  have hlt := ST.out.lt
  go_wp2_with fail
  rw [← HW1.out, ← HK.out]
  clear HW1
  go_region_held3 (fun W => W.cell? ⟨w.heap.size, 2, none⟩ = some (.bool b) ∧ W.cell? ⟨w.heap.size + 1, 2, none⟩ = some (.bool c) ∧ W.cell? ⟨K, 0, none⟩ = some (.int .u64 n1) ∧ W.cell? ⟨K, 1, none⟩ = some (.slice aq nq nq) ∧ W.cell? ⟨K + 1, 0, none⟩ = some (.int .u64 m1) ∧ W.cell? ⟨K + 1, 1, none⟩ = some (.slice ar nr nr)) (first | with_reducible exact ⟨e1, e2, e3, e4, e5, e6⟩ | with_reducible exact ⟨(far3 (by omega)).trans (e1), (far3 (by omega)).trans (e2), (far3 (by omega)).trans (e3), (far3 (by omega)).trans (e4), (far3 (by omega)).trans (e5), (far3 (by omega)).trans (e6)⟩ | with_reducible exact ⟨(far3 (by omega)).trans ((far3 (by omega)).trans (e1)), (far3 (by omega)).trans ((far3 (by omega)).trans (e2)), (far3 (by omega)).trans ((far3 (by omega)).trans (e3)), (far3 (by omega)).trans ((far3 (by omega)).trans (e4)), (far3 (by omega)).trans ((far3 (by omega)).trans (e5)), (far3 (by omega)).trans ((far3 (by omega)).trans (e6))⟩ | exact ⟨e1, e2, e3, e4, e5, e6⟩) (first | (go_at_call 170; (with_reducible refine Calls.mono (signed_true (.int .u64 n1) (.slice aq nq nq) n _ ?hv) ?_); (case hv => exact (ST.out.step (below_drew _)).nq); rintro e wn ⟨p5, v5, rfl, hn5, hb⟩; replace hb := below_undrew hb; obtain ⟨sq, hsq⟩ : ∃ sq, sq = decide ((-n : Int) < 0) := ⟨_, rfl⟩; rw [← hsq]; have HSQ := Lib.hid hsq; clear hsq; have N5 := Lib.hid hn5; obtain ⟨t5, a5, l5, rfl, rfl, -, -, -, -, -, -⟩ := hn5.form; replace ST := Lib.hid (ST.out.step hb); clear e1 e2 e3 e4 e5 e6; have e1 := ST.out.dt.p2; have e2 := ST.out.dt.q2; have e3 := ST.out.k0; have e4 := ST.out.k1; have e5 := ST.out.l0; have e6 := ST.out.l1; have g0 := ST.out.dt.r; obtain ⟨g00, g01, g02, g03, g04, g05⟩ := g0; have h0 := ST.out.dt.t; obtain ⟨h00, h01, h02, h03, h04, h05⟩ := h0; clear hn5 hb) | (go_at_call 170; (with_reducible refine Calls.mono (signed_any (.int .u64 m1) (.slice ar nr nr) b m _ ?hv) ?_); (case hv => exact ST.out.nr); rintro e wn ⟨p6, v6, rfl, hn6, hb⟩; obtain ⟨sr, hsr⟩ : ∃ sr, sr = decide ((if b = true then -m else m) < 0) := ⟨_, rfl⟩; rw [← hsr]; have HSR := Lib.hid hsr; clear hsr; have N6 := Lib.hid hn6; replace N5 := Lib.hid (N5.out.below hb); obtain ⟨t6, a6, l6, rfl, rfl, -, -, -, -, -, -⟩ := hn6.form; replace ST := Lib.hid (ST.out.step hb); clear e1 e2 e3 e4 e5 e6; have e1 := ST.out.dt.p2; have e2 := ST.out.dt.q2; have e3 := ST.out.k0; have e4 := ST.out.k1; have e5 := ST.out.l0; have e6 := ST.out.l1; clear g00 g01 g02 g03 g04 g05 h00 h01 h02 h03 h04 h05; have g0 := ST.out.dt.r; obtain ⟨g00, g01, g02, g03, g04, g05⟩ := g0; have h0 := ST.out.dt.t; obtain ⟨h00, h01, h02, h03, h04, h05⟩ := h0; clear hn6 hb))
  have T3 := Lib.hid (ST.out.dt.put N5.out N6.out sq sr)
  clear g00 g01 g02 g03 g04 g05 h00 h01 h02 h03 h04 h05 e1 e2 e3 e4 e5 e6 ST N5 N6
  obtain ⟨W3, hW3⟩ : ∃ W3, W3 = wr3 (wr3 wn (w.heap.size + 1 + 1) (.int .u64 t5) (.slice a5 l5 l5) sq) (w.heap.size + 1 + 1 + 1) (.int .u64 t6) (.slice a6 l6 l6) sr := ⟨_, rfl⟩
  rw [← hW3] at T3
  have HW3 := Lib.hid hW3
  have hmn : ((if b = true then -m else m).natAbs : Int) = m := by have := HMB.out; split <;> omega
  have hnn : ((-n : Int).natAbs : Int) = n := by have := HNB.out; omega
  rw [hmn, hnn] at T3
  clear hW3 hmn hnn
  have hW4 : W3 = (((((wn.setCell ⟨w.heap.size + 1 + 1, 0, none⟩ (.int .u64 t5)).setCell ⟨w.heap.size + 1 + 1, 1, none⟩ (.slice a5 l5 l5)).setCell ⟨w.heap.size + 1 + 1, 2, none⟩ (.bool sq)).setCell ⟨w.heap.size + 1 + 1 + 1, 0, none⟩ (.int .u64 t6)).setCell ⟨w.heap.size + 1 + 1 + 1, 1, none⟩ (.slice a6 l6 l6)).setCell ⟨w.heap.size + 1 + 1 + 1, 2, none⟩ (.bool sr) := HW3.out
  rw [← hW4]
  clear hW4 HW3
  have e1 := T3.out.p2
  have e2 := T3.out.q2
  obtain ⟨g00, g01, g02, g03, g04, g05⟩ := T3.out.r
  obtain ⟨h00, h01, h02, h03, h04, h05⟩ := T3.out.t
  go_wp2_with fail
  refine (isZero_true _ _ W3 (by have := T3.out.nc; rwa [HM0.out] at this)).mono ?_
  rintro e w4 ⟨rfl, rfl⟩
  have T4 := Lib.hid ((T3.out.step (alloc_below W3 (.cells #[.int .u64 t6, .slice a6 l6 l6] 72))).step (alloc_below _ (.cells #[.int .u64 t6, .slice a6 l6 l6] 72)))
  generalize (W3.alloc (.cells #[.int .u64 t6, .slice a6 l6 l6] 72)).alloc (.cells #[.int .u64 t6, .slice a6 l6 l6] 72) = W4 at *
  clear g00 g01 g02 g03 g04 g05 h00 h01 h02 h03 h04 h05 e1 e2 T3
  have e1 := T4.out.p2
  have e2 := T4.out.q2
  obtain ⟨g00, g01, g02, g03, g04, g05⟩ := T4.out.r
  obtain ⟨h00, h01, h02, h03, h04, h05⟩ := T4.out.t
  go_wp2
  go_region
  all_goals go_wp2
  have F := (T4.out.put T4.out.na T4.out.nc sq sr).step (below_drew _)
  obtain ⟨WF, hWF⟩ : ∃ WF, WF = (wr3 (wr3 W4 (w.heap.size + 1 + 1) (.int .u64 t5) (.slice a5 l5 l5) sq) (w.heap.size + 1 + 1 + 1) (.int .u64 t6) (.slice a6 l6 l6) sr).drew := ⟨_, rfl⟩
  rw [← hWF] at F
  have hWG : WF = ((((((W4.setCell ⟨w.heap.size + 1 + 1, 0, none⟩ (.int .u64 t5)).setCell ⟨w.heap.size + 1 + 1, 1, none⟩ (.slice a5 l5 l5)).setCell ⟨w.heap.size + 1 + 1, 2, none⟩ (.bool sq)).setCell ⟨w.heap.size + 1 + 1 + 1, 0, none⟩ (.int .u64 t6)).setCell ⟨w.heap.size + 1 + 1 + 1, 1, none⟩ (.slice a6 l6 l6)).setCell ⟨w.heap.size + 1 + 1 + 1, 2, none⟩ (.bool sr)).drew := hWF
  rw [← hWG]
  clear hWF hWG
  obtain ⟨r0, r1, r2, _, _, _⟩ := F.r
  obtain ⟨s0, s1, s2, _, _, _⟩ := F.t
  refine bodyPost_ret (v := .tuple #[.agg #[.int .u64 t5, .slice a5 l5 l5, .bool sq], .agg #[.int .u64 t6, .slice a6 l6 l6, .bool sr]]) (by simp [results, Tryz.results152, go_sem, r0, r1, r2, s0, s1, s2]) rfl (giveZZ F ?_ ?_ ?_ ?_)
  · have := HX.out; have := HNB.out; omega
  · have h1 := HY.out; have h2 := HMB.out; split at h1 <;> omega
  · rw [HSQ.out, ← HX.out]
  · rw [HSR.out, HY.out]
end Go.Proofs.YtkhebidmfjbhaaaGreatDoor
