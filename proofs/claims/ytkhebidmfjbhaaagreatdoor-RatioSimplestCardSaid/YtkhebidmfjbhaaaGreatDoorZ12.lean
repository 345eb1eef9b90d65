/-
  Number.DivMod, a case of the signs.
-/
import Derived.Test.YtkhebidmfjbhaaaGreatDoorZ08
namespace Go.Proofs.YtkhebidmfjbhaaaGreatDoor
open Go.RowKit

set_option maxHeartbeats 4000000 in
set_option maxRecDepth 100000 in
theorem dm_ne1 (p v q u : Value) (b : Bool) (c : Bool) (hc : c = !b) (x y n m X Y : Int) (w : World) (hu : NatV w p v x) (hv : NatV w q u y) (hy : 0 < y) (hx9 : nl x ≤ 40000) (hy9 : nl y ≤ 40000) (hn : x / y = n) (hm : x % y = m) (hm0 : m ≠ 0) (hX : -n - 1 = X) (hY : (if b = true then -m else m) + (if c = true then -y else y) = Y) :
    Calls Tryz.prog 152 #[.agg #[p, v, .bool b], .agg #[q, u, .bool c]] w (GivesZZ X Y w) := by
  have hym := Int.emod_lt_of_pos x hy
  have hnb : 0 ≤ n ∧ n ≤ x := by rw [← hn]; exact ⟨Int.ediv_nonneg hu.1 (Int.le_of_lt hy), Int.ediv_le_self _ hu.1⟩
  have hmb : 0 ≤ m := by rw [← hm]; exact Int.emod_nonneg _ (by omega)
  have hnl : nl n ≤ 40000 := Nat.le_trans (nl_mono hu.1 hnb.2) hx9
  have hml : nl m ≤ 40000 := Nat.le_trans (nl_mono (by omega) (by omega)) hy9
  have DV := Lib.hid (fun W (h : Below w.heap.size w W) => divide_any _ _ _ _ x y W (hu.below h) (hv.below h) hy (by omega))
  rw [hn, hm] at DV
  have hV := hv
  obtain ⟨t, a, ln, rfl, rfl, -, -, -, -, -, -⟩ := hu.form
  obtain ⟨s, d, lm, rfl, rfl, -, -, -, -, -, -⟩ := hv.form
  have hB := DT.new w (.int .u64 t) (.slice a ln ln) b (.int .u64 s) (.slice d lm lm) c y hV 74
  obtain ⟨W0, hW0⟩ : ∃ W0, W0 = ((((w.alloc (.cells #[.int .u64 t, .slice a ln ln, .bool b] 74)).alloc (.cells #[.int .u64 s, .slice d lm lm, .bool c] 74)).alloc (.cells #[.int .u64 0, .slice none 0 0, .bool false] 74)).alloc (.cells #[.int .u64 0, .slice none 0 0, .bool false] 74)) := ⟨_, rfl⟩
  rw [← hW0] at hB
  have D0 := Lib.hid hB
  have c00 := hB.p0
  have c01 := hB.p1
  have c10 := hB.q0
  have c11 := hB.q1
  have hbc : (b == c) = false := by subst hc; cases b <;> rfl
  have HCB := Lib.hid hc
  have HX := Lib.hid hX
  have HY := Lib.hid hY
  have HM0 := Lib.hid hm0
  have HNB := Lib.hid hnb
  have HMB := Lib.hid hmb
  have HNL := Lib.hid hnl
  have HML := Lib.hid hml
  have HYM : Hid (m < y) := by show m < y; omega
  have HY9 := Lib.hid hy9
  clear hu hv hV hB hm0 hnb hnl hml hn hm hym hX hY hx9 hy9 hmb hc
  go_enter Tryz.func152, Tryz.ntmps152
  go_wp2_with fail
  rw [← hW0]
  clear hW0
  refine (DV.out _ D0.out.below).mono ?_
  rintro e w1 ⟨q1, q2, r1, r2, rfl, hq1, hr1, hb1⟩
  have hds := (D0.out.step hb1).box hq1 hr1 72
  obtain ⟨n1, aq, nq, rfl, rfl, -, -, -, -, -, -⟩ := hq1.form
  obtain ⟨m1, ar, nr, rfl, rfl, -, -, -, -, -, -⟩ := hr1.form
  obtain ⟨K, hK⟩ : ∃ K, K = w1.heap.size := ⟨_, rfl⟩
  obtain ⟨W1, hW1⟩ : ∃ W1, W1 = ((w1.alloc (.cells #[.int .u64 n1, .slice aq nq nq] 72)).alloc (.cells #[.int .u64 m1, .slice ar nr nr] 72)) := ⟨_, rfl⟩
  rw [← hW1, ← hK] at hds
  have ST := Lib.hid hds
  have HK := Lib.hid hK
  have HW1 := Lib.hid hW1
  clear hq1 hr1 hb1 c00 c01 c10 c11 D0 hds hK hW1
  have e1 := ST.out.dt.p2
  have e2 := ST.out.dt.q2
  have e3 := ST.out.k0
  have e4 := ST.out.k1
  have e5 := ST.out.l0
  have e6 := ST.out.l1
  have hsz := ST.out.gt
  have hlt := ST.out.lt
  go_wp2_with fail
  rw [← HW1.out, ← HK.out]
  clear HW1
  go_region_held3 (fun W => W.cell? ⟨w.heap.size, 2, none⟩ = some (.bool b) ∧ W.cell? ⟨w.heap.size + 1, 2, none⟩ = some (.bool c) ∧ W.cell? ⟨K, 0, none⟩ = some (.int .u64 n1) ∧ W.cell? ⟨K, 1, none⟩ = some (.slice aq nq nq) ∧ W.cell? ⟨K + 1, 0, none⟩ = some (.int .u64 m1) ∧ W.cell? ⟨K + 1, 1, none⟩ = some (.slice ar nr nr)) (first | with_reducible exact ⟨e1, e2, e3, e4, e5, e6⟩ | with_reducible exact ⟨(far3 (by omega)).trans (e1), (far3 (by omega)).trans (e2), (far3 (by omega)).trans (e3), (far3 (by omega)).trans (e4), (far3 (by omega)).trans (e5), (far3 (by omega)).trans (e6)⟩ | with_reducible exact ⟨(far3 (by omega)).trans ((far3 (by omega)).trans (e1)), (far3 (by omega)).trans ((far3 (by omega)).trans (e2)), (far3 (by omega)).trans ((far3 (by omega)).trans (e3)), (far3 (by omega)).trans ((far3 (by omega)).trans (e4)), (far3 (by omega)).trans ((far3 (by omega)).trans (e5)), (far3 (by omega)).trans ((far3 (by omega)).trans (e6))⟩ | exact ⟨e1, e2, e3, e4, e5, e6⟩) (first | (go_at_call 170; (with_reducible refine Calls.mono (signed_true (.int .u64 n1) (.slice aq nq nq) n _ ?hv) ?_); (case hv => exact (ST.out.step (below_drew _)).nq); rintro e wn ⟨p5, v5, rfl, hn5, hb⟩; replace hb := below_undrew hb; obtain ⟨sq, hsq⟩ : ∃ sq, sq = decide ((-n : Int) < 0) := ⟨_, rfl⟩; rw [← hsq]; have HSQ := Lib.hid hsq; clear hsq; have N5 := Lib.hid hn5; obtain ⟨t5, a5, l5, rfl, rfl, -, -, -, -, -, -⟩ := hn5.form; replace ST := Lib.hid (ST.out.step hb); clear e1 e2 e3 e4 e5 e6; have e1 := ST.out.dt.p2; have e2 := ST.out.dt.q2; have e3 := ST.out.k0; have e4 := ST.out.k1; have e5 := ST.out.l0; have e6 := ST.out.l1; have g0 := ST.out.dt.r; obtain ⟨g00, g01, g02, g03, g04, g05⟩ := g0; have h0 := ST.out.dt.t; obtain ⟨h00, h01, h02, h03, h04, h05⟩ := h0; clear hn5 hb) | (go_at_call 170; (with_reducible refine Calls.mono (signed_any (.int .u64 m1) (.slice ar nr nr) b m _ ?hv) ?_); (case hv => exact ST.out.nr); rintro e wn ⟨p6, v6, rfl, hn6, hb⟩; obtain ⟨sr, hsr⟩ : ∃ sr, sr = decide ((if b = true then -m else m) < 0) := ⟨_, rfl⟩; rw [← hsr]; have HSR := Lib.hid hsr; clear hsr; have N6 := Lib.hid hn6; replace N5 := Lib.hid (N5.out.below hb); obtain ⟨t6, a6, l6, rfl, rfl, -, -, -, -, -, -⟩ := hn6.form; replace ST := Lib.hid (ST.out.step hb); clear e1 e2 e3 e4 e5 e6; have e1 := ST.out.dt.p2; have e2 := ST.out.dt.q2; have e3 := ST.out.k0; have e4 := ST.out.k1; have e5 := ST.out.l0; have e6 := ST.out.l1; clear g00 g01 g02 g03 g04 g05 h00 h01 h02 h03 h04 h05; have g0 := ST.out.dt.r; obtain ⟨g00, g01, g02, g03, g04, g05⟩ := g0; have h0 := ST.out.dt.t; obtain ⟨h00, h01, h02, h03, h04, h05⟩ := h0; clear hn6 hb))
  have T3 := Lib.hid (ST.out.dt.put N5.out N6.out sq sr)
  clear g00 g01 g02 g03 g04 g05 h00 h01 h02 h03 h04 h05 e1 e2 e3 e4 e5 e6 ST N5 N6
  obtain ⟨W3, hW3⟩ : ∃ W3, W3 = wr3 (wr3 wn (w.heap.size + 1 + 1) (.int .u64 t5) (.slice a5 l5 l5) sq) (w.heap.size + 1 + 1 + 1) (.int .u64 t6) (.slice a6 l6 l6) sr := ⟨_, rfl⟩
  rw [← hW3] at T3
  have HW3 := Lib.hid hW3
  have hmn : ((if b = true then -m else m).natAbs : Int) = m := by have := HMB.out; split <;> omega
  have hnn : ((-n : Int).natAbs : Int) = n := by have := HNB.out; omega
  rw [hmn, hnn] at T3
  clear hW3 hmn hnn
  have hW4 : W3 = (((((wn.setCell ⟨w.heap.size + 1 + 1, 0, none⟩ (.int .u64 t5)).setCell ⟨w.heap.size + 1 + 1, 1, none⟩ (.slice a5 l5 l5)).setCell ⟨w.heap.size + 1 + 1, 2, none⟩ (.bool sq)).setCell ⟨w.heap.size + 1 + 1 + 1, 0, none⟩ (.int .u64 t6)).setCell ⟨w.heap.size + 1 + 1 + 1, 1, none⟩ (.slice a6 l6 l6)).setCell ⟨w.heap.size + 1 + 1 + 1, 2, none⟩ (.bool sr) := HW3.out
  rw [← hW4]
  clear hW4 HW3
  have e1 := T3.out.p2
  have e2 := T3.out.q2
  obtain ⟨g00, g01, g02, g03, g04, g05⟩ := T3.out.r
  obtain ⟨h00, h01, h02, h03, h04, h05⟩ := T3.out.t
  go_wp2_with fail
  refine (isZero_false _ _ m W3 T3.out.nc HM0.out).mono ?_
  rintro e w4 ⟨rfl, rfl⟩
  have T4 := Lib.hid ((T3.out.step (alloc_below W3 (.cells #[.int .u64 t6, .slice a6 l6 l6] 72))).step (alloc_below _ (.cells #[.int .u64 t6, .slice a6 l6 l6] 72)))
  generalize (W3.alloc (.cells #[.int .u64 t6, .slice a6 l6 l6] 72)).alloc (.cells #[.int .u64 t6, .slice a6 l6 l6] 72) = W4 at *
  clear g00 g01 g02 g03 g04 g05 h00 h01 h02 h03 h04 h05 e1 e2 T3
  have e1 := T4.out.p2
  have e2 := T4.out.q2
  obtain ⟨g00, g01, g02, g03, g04, g05⟩ := T4.out.r
  obtain ⟨h00, h01, h02, h03, h04, h05⟩ := T4.out.t
  have hX1 : -n - 1 = X := HX.out
  have hnn : ((-n).natAbs : Int) = n := by have := HNB.out; omega
  have hrr : ((if b = true then -m else m).natAbs : Int) = m := by have := HMB.out; split <;> omega
  have hyy : ((if c = true then -y else y).natAbs : Int) = y := by split <;> omega
  have hcy : c = decide ((if c = true then -y else y) < 0) := by cases c <;> simp <;> omega
  have OFN := Lib.hid (fun W => OfZ_any 1 W (by omega) (by omega))
  have MI := Lib.hid (fun W (hb : Below W4.heap.size W4 W) (q' u' : Value) (s' : Bool) (hs : s' = decide ((1 : Int) < 0)) (hn1 : NatV W q' u' (1 : Int).natAbs) => Minus_any (.int .u64 t5) (.slice a5 l5 l5) q' u' sq s' (-n) 1 W (by rw [hnn]; exact T4.out.na.below hb) hn1 HSQ.out hs (by rw [hnn]; have := HNL.out; omega) (by rw [nl_one (by decide) (by decide)]; omega))
  rw [hX1] at MI
  have PL := Lib.hid (fun W (hb : Below W4.heap.size W4 W) => Plus_any (.int .u64 t6) (.slice a6 l6 l6) (.int .u64 s) (.slice d lm lm) sr c (if b = true then -m else m) (if c = true then -y else y) W (by rw [hrr]; exact T4.out.nc.below hb) (by rw [hyy]; exact T4.out.nv.below hb) HSR.out hcy (by rw [hrr]; have := HML.out; omega) (by rw [hyy]; have := HY9.out; omega))
  rw [HY.out] at PL
  have Z4 := Lib.hid (Below.refl W4.heap.size W4)
  clear hX1 hnn hrr hyy hcy
  go_wp2_with fail
  refine region_till (S := fun (W : World) => (W.cell? ⟨w.heap.size + 1 + 1, 0, none⟩ = some (.int .u64 t5) ∧ W.cell? ⟨w.heap.size + 1 + 1, 1, none⟩ = some (.slice a5 l5 l5) ∧ W.cell? ⟨w.heap.size + 1 + 1, 2, none⟩ = some (.bool sq)) ∧ (W.cell? ⟨w.heap.size + 1 + 1 + 1, 0, none⟩ = some (.int .u64 t6) ∧ W.cell? ⟨w.heap.size + 1 + 1 + 1, 1, none⟩ = some (.slice a6 l6 l6) ∧ W.cell? ⟨w.heap.size + 1 + 1 + 1, 2, none⟩ = some (.bool sr)) ∧ (W.cell? ⟨w.heap.size + 1, 0, none⟩ = some (.int .u64 s) ∧ W.cell? ⟨w.heap.size + 1, 1, none⟩ = some (.slice d lm lm) ∧ W.cell? ⟨w.heap.size + 1, 2, none⟩ = some (.bool c))) (M := 6) (by kernel_rfl) ?_
  have hS0 : (fun (W : World) => (W.cell? ⟨w.heap.size + 1 + 1, 0, none⟩ = some (.int .u64 t5) ∧ W.cell? ⟨w.heap.size + 1 + 1, 1, none⟩ = some (.slice a5 l5 l5) ∧ W.cell? ⟨w.heap.size + 1 + 1, 2, none⟩ = some (.bool sq)) ∧ (W.cell? ⟨w.heap.size + 1 + 1 + 1, 0, none⟩ = some (.int .u64 t6) ∧ W.cell? ⟨w.heap.size + 1 + 1 + 1, 1, none⟩ = some (.slice a6 l6 l6) ∧ W.cell? ⟨w.heap.size + 1 + 1 + 1, 2, none⟩ = some (.bool sr)) ∧ (W.cell? ⟨w.heap.size + 1, 0, none⟩ = some (.int .u64 s) ∧ W.cell? ⟨w.heap.size + 1, 1, none⟩ = some (.slice d lm lm) ∧ W.cell? ⟨w.heap.size + 1, 2, none⟩ = some (.bool c))) _ := ⟨⟨T4.out.r.c0, T4.out.r.c1, T4.out.r.c2⟩, ⟨T4.out.t.c0, T4.out.t.c1, T4.out.t.c2⟩, ⟨T4.out.q0, T4.out.q1, T4.out.q2⟩⟩
  refine till_held (i := 0) (v := ?_) [0, 6] rfl rfl (by kernel_rfl) (by kernel_rfl) (by kernel_rfl) (by kernel_rfl) (fun _ _ _ h => h) hS0 (Or.inl ⟨by rfl, ?_⟩) ?_
  rotate_left
  · ((intro W hW; (try dsimp only at hW); go_simp) <;> (with_reducible rfl))
  try simp only [Act.put, List.setIfInBounds_toArray, List.set_cons_zero, List.set_cons_succ, List.getElem_toArray, List.getElem_cons_zero]
  refine till_held (i := 3) (v := ?_) [3, 5, 6] rfl rfl (by kernel_rfl) (by kernel_rfl) (by kernel_rfl) (by kernel_rfl) (fun _ _ _ h => h) hS0 (Or.inl ⟨by rfl, ?_⟩) ?_
  rotate_left
  · ((intro W hW; (try dsimp only at hW); go_simp) <;> (with_reducible rfl))
  try simp only [Act.put, List.setIfInBounds_toArray, List.set_cons_zero, List.set_cons_succ, List.getElem_toArray, List.getElem_cons_succ, List.getElem_cons_zero]
  refine till_held (i := 4) (v := ?_) [4, 5, 6] rfl rfl (by kernel_rfl) (by kernel_rfl) (by kernel_rfl) (by kernel_rfl) (fun _ _ _ h => h) hS0 (Or.inl ⟨by rfl, ?_⟩) ?_
  rotate_left
  · ((intro W hW; (try dsimp only at hW); go_simp) <;> (with_reducible rfl))
  try simp only [Act.put, List.setIfInBounds_toArray, List.set_cons_zero, List.set_cons_succ, List.getElem_toArray, List.getElem_cons_succ, List.getElem_cons_zero]
  refine till_one (i := 1) rfl (by kernel_rfl) (fun K hK => ?_)
  go_simp
  refine Calls.mono (OFN.out _) ?_
  rintro e w5 ⟨p7, v7, rfl, hv7, hb7⟩
  replace hb7 := below_undrew hb7
  have T5 := Lib.hid (T4.out.step hb7)
  have Z5 := Lib.hid hb7
  have N7 := Lib.hid hv7
  obtain ⟨s7, hs7⟩ : ∃ s7, s7 = decide ((1 : Int) < 0) := ⟨_, rfl⟩
  rw [← hs7]
  have HS7 := Lib.hid hs7
  obtain ⟨t7, a7, l7, rfl, rfl, -, -, -, -, -, -⟩ := hv7.form
  clear hv7 hb7 hs7
  have hS1 : (fun (W : World) => (W.cell? ⟨w.heap.size + 1 + 1, 0, none⟩ = some (.int .u64 t5) ∧ W.cell? ⟨w.heap.size + 1 + 1, 1, none⟩ = some (.slice a5 l5 l5) ∧ W.cell? ⟨w.heap.size + 1 + 1, 2, none⟩ = some (.bool sq)) ∧ (W.cell? ⟨w.heap.size + 1 + 1 + 1, 0, none⟩ = some (.int .u64 t6) ∧ W.cell? ⟨w.heap.size + 1 + 1 + 1, 1, none⟩ = some (.slice a6 l6 l6) ∧ W.cell? ⟨w.heap.size + 1 + 1 + 1, 2, none⟩ = some (.bool sr)) ∧ (W.cell? ⟨w.heap.size + 1, 0, none⟩ = some (.int .u64 s) ∧ W.cell? ⟨w.heap.size + 1, 1, none⟩ = some (.slice d lm lm) ∧ W.cell? ⟨w.heap.size + 1, 2, none⟩ = some (.bool c))) w5 := ⟨⟨T5.out.r.c0, T5.out.r.c1, T5.out.r.c2⟩, ⟨T5.out.t.c0, T5.out.t.c1, T5.out.t.c2⟩, ⟨T5.out.q0, T5.out.q1, T5.out.q2⟩⟩
  go_wp2_with fail
  refine hK.out _ _ ⟨fun _ => hS1, ?_⟩
  clear hK K
  try simp only [Act.put, List.setIfInBounds_toArray, List.set_cons_zero, List.set_cons_succ, List.getElem_toArray, List.getElem_cons_succ, List.getElem_cons_zero]
  refine till_one (i := 2) rfl (by kernel_rfl) (fun K hK => ?_)
  go_simp
  refine Calls.mono (MI.out w5 Z5.out _ _ s7 HS7.out N7.out) ?_
  rintro e w6 ⟨p8, v8, rfl, hv8, hb8⟩
  have T6 := Lib.hid (T5.out.step hb8)
  have Z6 := Lib.hid (Z5.out.trans (hb8.mono Z5.out.size))
  have N8 := Lib.hid hv8
  obtain ⟨s8, hs8⟩ : ∃ s8, s8 = decide (X < 0) := ⟨_, rfl⟩
  rw [← hs8]
  have HS8 := Lib.hid hs8
  obtain ⟨t8, a8, l8, rfl, rfl, -, -, -, -, -, -⟩ := hv8.form
  clear hv8 hb8 hs8
  have hS2 : (fun (W : World) => (W.cell? ⟨w.heap.size + 1 + 1, 0, none⟩ = some (.int .u64 t5) ∧ W.cell? ⟨w.heap.size + 1 + 1, 1, none⟩ = some (.slice a5 l5 l5) ∧ W.cell? ⟨w.heap.size + 1 + 1, 2, none⟩ = some (.bool sq)) ∧ (W.cell? ⟨w.heap.size + 1 + 1 + 1, 0, none⟩ = some (.int .u64 t6) ∧ W.cell? ⟨w.heap.size + 1 + 1 + 1, 1, none⟩ = some (.slice a6 l6 l6) ∧ W.cell? ⟨w.heap.size + 1 + 1 + 1, 2, none⟩ = some (.bool sr)) ∧ (W.cell? ⟨w.heap.size + 1, 0, none⟩ = some (.int .u64 s) ∧ W.cell? ⟨w.heap.size + 1, 1, none⟩ = some (.slice d lm lm) ∧ W.cell? ⟨w.heap.size + 1, 2, none⟩ = some (.bool c))) w6 := ⟨⟨T6.out.r.c0, T6.out.r.c1, T6.out.r.c2⟩, ⟨T6.out.t.c0, T6.out.t.c1, T6.out.t.c2⟩, ⟨T6.out.q0, T6.out.q1, T6.out.q2⟩⟩
  go_wp2_with fail
  refine hK.out _ _ ⟨fun _ => hS2, ?_⟩
  clear hK K
  try simp only [Act.put, List.setIfInBounds_toArray, List.set_cons_zero, List.set_cons_succ, List.getElem_toArray, List.getElem_cons_succ, List.getElem_cons_zero]
  refine till_one (i := 5) rfl (by kernel_rfl) (fun K hK => ?_)
  go_simp
  refine Calls.mono (PL.out w6 Z6.out) ?_
  rintro e w7 ⟨p9, v9, rfl, hv9, hb9⟩
  have T7 := Lib.hid (T6.out.step hb9)
  have N9 := Lib.hid hv9
  replace N8 := Lib.hid (N8.out.below hb9)
  obtain ⟨s9, hs9⟩ : ∃ s9, s9 = decide (Y < 0) := ⟨_, rfl⟩
  rw [← hs9]
  have HS9 := Lib.hid hs9
  obtain ⟨t9, a9, l9, rfl, rfl, -, -, -, -, -, -⟩ := hv9.form
  clear hv9 hb9 hs9
  have hS3 : (fun (W : World) => (W.cell? ⟨w.heap.size + 1 + 1, 0, none⟩ = some (.int .u64 t5) ∧ W.cell? ⟨w.heap.size + 1 + 1, 1, none⟩ = some (.slice a5 l5 l5) ∧ W.cell? ⟨w.heap.size + 1 + 1, 2, none⟩ = some (.bool sq)) ∧ (W.cell? ⟨w.heap.size + 1 + 1 + 1, 0, none⟩ = some (.int .u64 t6) ∧ W.cell? ⟨w.heap.size + 1 + 1 + 1, 1, none⟩ = some (.slice a6 l6 l6) ∧ W.cell? ⟨w.heap.size + 1 + 1 + 1, 2, none⟩ = some (.bool sr)) ∧ (W.cell? ⟨w.heap.size + 1, 0, none⟩ = some (.int .u64 s) ∧ W.cell? ⟨w.heap.size + 1, 1, none⟩ = some (.slice d lm lm) ∧ W.cell? ⟨w.heap.size + 1, 2, none⟩ = some (.bool c))) w7 := ⟨⟨T7.out.r.c0, T7.out.r.c1, T7.out.r.c2⟩, ⟨T7.out.t.c0, T7.out.t.c1, T7.out.t.c2⟩, ⟨T7.out.q0, T7.out.q1, T7.out.q2⟩⟩
  clear g00 g01 g02 g03 g04 g05 h00 h01 h02 h03 h04 h05 e1 e2
  have g0 := T7.out.r
  obtain ⟨g00, g01, g02, g03, g04, g05⟩ := g0
  have h0 := T7.out.t
  obtain ⟨h00, h01, h02, h03, h04, h05⟩ := h0
  go_wp2_with fail
  refine hK.out _ _ ⟨fun _ => hS3, ?_⟩
  clear hK K
  try simp only [Act.put, List.setIfInBounds_toArray, List.set_cons_zero, List.set_cons_succ, List.getElem_toArray, List.getElem_cons_succ, List.getElem_cons_zero]
  refine till_one (i := 6) rfl (by kernel_rfl) (fun K hK => ?_)
  go_simp
  refine hK.out _ _ ⟨fun h => absurd h (by simp), ?_⟩
  clear hK K
  try simp only [Act.put, List.setIfInBounds_toArray, List.set_cons_zero, List.set_cons_succ, List.getElem_toArray, List.getElem_cons_succ, List.getElem_cons_zero]
  refine till_one (i := 7) rfl (by kernel_rfl) (fun K hK => ?_)
  go_simp
  refine hK.out _ _ ⟨fun h => absurd h (by simp), ?_⟩
  clear hK K
  try simp only [Act.put, List.setIfInBounds_toArray, List.set_cons_zero, List.set_cons_succ, List.getElem_toArray, List.getElem_cons_succ, List.getElem_cons_zero]
  refine till_done (by kernel_rfl) ?_
  have F := T7.out.put N8.out N9.out s8 s9
  obtain ⟨WF, hWF⟩ : ∃ WF, WF = (wr3 (wr3 w7 (w.heap.size + 1 + 1) (.int .u64 t8) (.slice a8 l8 l8) s8) (w.heap.size + 1 + 1 + 1) (.int .u64 t9) (.slice a9 l9 l9) s9) := ⟨_, rfl⟩
  rw [← hWF] at F
  have hWG : WF = ((((((w7.setCell ⟨w.heap.size + 1 + 1, 0, none⟩ (.int .u64 t8)).setCell ⟨w.heap.size + 1 + 1, 1, none⟩ (.slice a8 l8 l8)).setCell ⟨w.heap.size + 1 + 1, 2, none⟩ (.bool s8)).setCell ⟨w.heap.size + 1 + 1 + 1, 0, none⟩ (.int .u64 t9)).setCell ⟨w.heap.size + 1 + 1 + 1, 1, none⟩ (.slice a9 l9 l9)).setCell ⟨w.heap.size + 1 + 1 + 1, 2, none⟩ (.bool s9)) := hWF
  rw [← hWG]
  clear hWF hWG g00 g01 g02 g03 g04 g05 h00 h01 h02 h03 h04 h05 hS0 hS1 hS2 hS3
  obtain ⟨r0, r1, r2, _, _, _⟩ := F.r
  obtain ⟨s0, s1, s2, _, _, _⟩ := F.t
  go_wp2
  exact bodyPost_ret (v := .tuple #[.agg #[.int .u64 t8, .slice a8 l8 l8, .bool s8], .agg #[.int .u64 t9, .slice a9 l9 l9, .bool s9]]) (by simp [results, Tryz.results152, go_sem, r0, r1, r2, s0, s1, s2]) rfl (giveZZ F rfl rfl HS8.out HS9.out)
end Go.Proofs.YtkhebidmfjbhaaaGreatDoor
