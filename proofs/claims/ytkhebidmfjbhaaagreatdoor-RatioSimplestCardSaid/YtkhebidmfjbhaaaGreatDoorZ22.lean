/-
  What quotient returns.
-/
import Derived.Test.YtkhebidmfjbhaaaGreatDoorZ18
import Derived.Deep.RegionHeld3
import Derived.Deep.Cut
namespace Go.Proofs.YtkhebidmfjbhaaaGreatDoor
open Go.RowKit

set_option maxHeartbeats 4000000 in
set_option maxRecDepth 100000 in
theorem quotient_neg (px vx : Value) (ix : Bool) (py vy : Value) (iy : Bool) (x y : Int) (w : World) (hx : IntV w px vx ix x) (hy : IntV w py vy iy y) (h0 : y < 0) (hx9 : nl x.natAbs ≤ 20000) (hy9 : nl y.natAbs ≤ 20000) :
    Calls Tryz.prog 116 #[.agg #[px, vx, .bool ix], .agg #[py, vy, .bool iy]] w (GivesR (x.fdiv (-(Int.gcd x y : Int))) (y.fdiv (-(Int.gcd x y : Int))) w) := by
  have hg0 : (Int.gcd x y : Int) ≠ 0 := by have := Int.gcd_pos_of_ne_zero_right x (show y ≠ 0 by omega); omega
  have hg9 : nl (Int.gcd x y : Int) ≤ 20000 := nl_gcd hy9 (by omega)
  obtain ⟨g, hg⟩ : ∃ g : Int, (Int.gcd x y : Int) = g := ⟨_, rfl⟩
  have GC := Op2.gcd hg hx9 hy9
  rw [hg] at hg0 hg9
  rw [hg]
  obtain ⟨m, hm⟩ : ∃ m : Int, -g = m := ⟨_, rfl⟩
  have NG := Op1.neg hm
  have hm0 : m ≠ 0 := by omega
  have hm9 : nl m.natAbs ≤ 40000 := by rw [← hm, Int.natAbs_neg, show (g.natAbs : Int) = g by omega]; omega
  rw [hm]
  have hsg : sg y = -1 := by unfold sg; rw [if_pos h0]
  obtain ⟨z, hz⟩ : ∃ z : Int, x.fdiv m = z := ⟨_, rfl⟩
  obtain ⟨r, hr⟩ : ∃ r : Int, y.fdiv m = r := ⟨_, rfl⟩
  have OX := Op2.over hz hm0 (by omega) hm9
  have OY := Op2.over hr hm0 (by omega) hm9
  rw [hz, hr]
  clear hz hr hg hg0 hg9 hm0 hm9 hm
  obtain ⟨xt, xa, xn, rfl, rfl, -, -, -, -, -, -⟩ := hx.1.form
  obtain ⟨xs, hxs⟩ : ∃ s, s = ix := ⟨_, rfl⟩; subst hxs
  obtain ⟨yt, ya, yn, rfl, rfl, -, -, -, -, -, -⟩ := hy.1.form
  obtain ⟨ys, hys⟩ : ∃ s, s = iy := ⟨_, rfl⟩; subst hys
  obtain ⟨W0, hW0⟩ : ∃ W0, W0 = (((w.alloc (.cells #[.int .u64 xt, .slice xa xn xn, .bool xs] 74)).alloc (.cells #[.int .u64 yt, .slice ya yn yn, .bool ys] 74)).alloc (.cells #[.int .u64 0, .slice none 0 0, .bool false, .int .u64 0, .slice none 0 0, .bool false] 76)) := ⟨_, rfl⟩
  have ST : St w W0 [(w.heap.size + 1 + 1, .int .u64 0, .slice none 0 0, false, .int .u64 0, .slice none 0 0, false)] [(w.heap.size + 1, .int .u64 yt, .slice ya yn yn, ys), (w.heap.size, .int .u64 xt, .slice xa xn xn, xs)] [(.int .u64 yt, .slice ya yn yn, ys, y), (.int .u64 xt, .slice xa xn xn, xs, x)] := by
    rw [hW0]
    exact (((((St.zero).know hx).know hy).alloc (k := w.heap.size) (t := 74) (by first | rfl | (simp; done) | (simp; omega))).alloc (k := w.heap.size + 1) (t := 74) (by first | rfl | (simp; done) | (simp; omega))).allocR (k := w.heap.size + 1 + 1) (t := 76) (by first | rfl | (simp; done) | (simp; omega))
  replace ST := Lib.hid ST
  clear hx hy h0 hx9 hy9
  go_enter Tryz.func116, Tryz.ntmps116
  go_wp2_with fail
  rw [← hW0]
  clear hW0
  obtain ⟨c0, c1, c2⟩ := ST.out.num (k := w.heap.size) (by with_reducible ((repeat ((fail_if_success exact mem0); apply List.mem_cons_of_mem)); exact mem0))
  obtain ⟨c3, c4, c5⟩ := ST.out.num (k := w.heap.size + 1) (by with_reducible ((repeat ((fail_if_success exact mem0); apply List.mem_cons_of_mem)); exact mem0))
  go_wp2_with fail
  refine Calls.mono (Op2.run GC (ST.out.int (by with_reducible ((repeat ((fail_if_success exact mem0); apply List.mem_cons_of_mem)); exact mem0))) (ST.out.int (by with_reducible ((repeat ((fail_if_success exact mem0); apply List.mem_cons_of_mem)); exact mem0)))) ?_
  rintro e w1 ⟨p1, v1, rfl, hv1, hb1⟩
  obtain ⟨r1s, hs1⟩ : ∃ sgn, sgn = decide (g < 0) := ⟨_, rfl⟩
  rw [← hs1]
  have hi := And.intro hv1 hs1
  obtain ⟨r1t, r1a, r1n, rfl, rfl, -, -, -, -, -, -⟩ := hv1.form
  replace ST := Lib.hid ((ST.out.call hb1).know hi)
  clear hi hv1 hb1 hs1
  clear c0 c1 c2 c3 c4 c5
  go_upto_region 2 with fail
  obtain ⟨W2, hW2⟩ : ∃ W2, W2 = w1.alloc (.cells #[.int .u64 r1t, .slice r1a r1n r1n, .bool r1s] 74) := ⟨_, rfl⟩
  rw [← hW2]
  replace ST := ST.out.alloc (p := .int .u64 r1t) (v := .slice r1a r1n r1n) (b := r1s) (t := 74) (k := w1.heap.size) (by first | rfl | (simp; done) | (simp; omega))
  rw [← hW2] at ST
  clear hW2
  replace ST := Lib.hid ST
  obtain ⟨k, hk⟩ : ∃ k, k = w1.heap.size := ⟨_, rfl⟩
  rw [← hk] at ST ⊢
  clear hk
  obtain ⟨c3, c4, c5⟩ := ST.out.num (k := w.heap.size + 1) (by with_reducible ((repeat ((fail_if_success exact mem0); apply List.mem_cons_of_mem)); exact mem0))
  go_wp2_with fail
  refine Calls.mono (SignN_any _ _ y _ _ (ST.out.int (x := y) (by with_reducible ((repeat ((fail_if_success exact mem0); apply List.mem_cons_of_mem)); exact mem0))).1 (ST.out.int (x := y) (by with_reducible ((repeat ((fail_if_success exact mem0); apply List.mem_cons_of_mem)); exact mem0))).2) ?_
  rintro e w3 ⟨rfl, hb3⟩
  replace ST := Lib.hid (ST.out.call hb3)
  rw [hsg]
  clear hb3
  clear c3 c4 c5
  obtain ⟨c0, c1, c2⟩ := ST.out.num (k := w.heap.size) (by with_reducible ((repeat ((fail_if_success exact mem0); apply List.mem_cons_of_mem)); exact mem0))
  obtain ⟨c3, c4, c5⟩ := ST.out.num (k := w.heap.size + 1) (by with_reducible ((repeat ((fail_if_success exact mem0); apply List.mem_cons_of_mem)); exact mem0))
  obtain ⟨c6, c7, c8⟩ := ST.out.num (k := k) (by with_reducible ((repeat ((fail_if_success exact mem0); apply List.mem_cons_of_mem)); exact mem0))
  go_wp2_with fail
  refine Calls.mono (Op1.run NG (ST.out.int (by with_reducible ((repeat ((fail_if_success exact mem0); apply List.mem_cons_of_mem)); exact mem0)))) ?_
  rintro e w4 ⟨p4, v4, rfl, hv4, hb4⟩
  obtain ⟨r4s, hs4⟩ : ∃ sgn, sgn = decide (m < 0) := ⟨_, rfl⟩
  rw [← hs4]
  have hi := And.intro hv4 hs4
  obtain ⟨r4t, r4a, r4n, rfl, rfl, -, -, -, -, -, -⟩ := hv4.form
  replace ST := Lib.hid ((ST.out.call hb4).know hi)
  clear hi hv4 hb4 hs4
  clear c0 c1 c2 c3 c4 c5 c6 c7 c8
  obtain ⟨c6, c7, c8, c9, c10, c11⟩ := ST.out.nums (k, .int .u64 r1t, .slice r1a r1n r1n, r1s) (by with_reducible ((repeat ((fail_if_success exact mem0); apply List.mem_cons_of_mem)); exact mem0))
  dsimp only at c6 c7 c8 c9 c10 c11
  go_upto_region 4 with fail
  obtain ⟨W5, hW5⟩ : ∃ W5, W5 = ((w4.setCell ⟨k, 0, none⟩ (.int .u64 r4t)).setCell ⟨k, 1, none⟩ (.slice r4a r4n r4n)).setCell ⟨k, 2, none⟩ (.bool r4s) := ⟨_, rfl⟩
  rw [← hW5]
  replace ST := ST.out.over (p' := .int .u64 r4t) (v' := .slice r4a r4n r4n) (b' := r4s) (k := k) (ST.out.int (x := g) (by with_reducible ((repeat ((fail_if_success exact mem0); apply List.mem_cons_of_mem)); exact mem0))).1
  rw [← hW5] at ST
  clear hW5
  replace ST := Lib.hid ST
  clear c6 c7 c8 c9 c10 c11
  (first | clear q0 q1 q2 q3 q4 q5 q6 q7 q8 q9 q10 q11 | skip); obtain ⟨q0, q1, q2, q3, q4, q5, q6, q7, q8, q9, q10, q11⟩ := ST.out.rats (w.heap.size + 1 + 1, .int .u64 0, .slice none 0 0, false, .int .u64 0, .slice none 0 0, false) (by with_reducible ((repeat ((fail_if_success exact mem0); apply List.mem_cons_of_mem)); exact mem0)); dsimp only at q0 q1 q2 q3 q4 q5 q6 q7 q8 q9 q10 q11
  go_region_held3 (fun W => (W.cell? ⟨w.heap.size, 0, none⟩ = some (.int .u64 xt) ∧ W.cell? ⟨w.heap.size, 1, none⟩ = some (.slice xa xn xn) ∧ W.cell? ⟨w.heap.size, 2, none⟩ = some (.bool xs)) ∧ (W.cell? ⟨(w.heap.size + 1), 0, none⟩ = some (.int .u64 yt) ∧ W.cell? ⟨(w.heap.size + 1), 1, none⟩ = some (.slice ya yn yn) ∧ W.cell? ⟨(w.heap.size + 1), 2, none⟩ = some (.bool ys)) ∧ (W.cell? ⟨k, 0, none⟩ = some (.int .u64 r4t) ∧ W.cell? ⟨k, 1, none⟩ = some (.slice r4a r4n r4n) ∧ W.cell? ⟨k, 2, none⟩ = some (.bool r4s))) ((exact ⟨St.num (w := w) (by ((with_reducible iterate 4 try first | apply St.drew | apply St.alloc | apply St.allocR | apply St.putR); ((with_reducible exact ST.out); all_goals (first | rfl | (simp; done) | (simp; omega))))) (by with_reducible ((repeat ((fail_if_success exact mem0); apply List.mem_cons_of_mem)); exact mem0)), St.num (w := w) (by ((with_reducible iterate 4 try first | apply St.drew | apply St.alloc | apply St.allocR | apply St.putR); ((with_reducible exact ST.out); all_goals (first | rfl | (simp; done) | (simp; omega))))) (by with_reducible ((repeat ((fail_if_success exact mem0); apply List.mem_cons_of_mem)); exact mem0)), St.num (w := w) (by ((with_reducible iterate 4 try first | apply St.drew | apply St.alloc | apply St.allocR | apply St.putR); ((with_reducible exact ST.out); all_goals (first | rfl | (simp; done) | (simp; omega))))) (by with_reducible ((repeat ((fail_if_success exact mem0); apply List.mem_cons_of_mem)); exact mem0))⟩)) (first | (go_at_call 147; refine St.arm (w := w) (by ((with_reducible iterate 4 try first | apply St.drew | apply St.alloc | apply St.allocR | apply St.putR); ((with_reducible exact ST.out); all_goals (first | rfl | (simp; done) | (simp; omega))))) (by intro H; with_reducible exact Op2.run OX (H.int (by with_reducible ((repeat ((fail_if_success exact mem0); apply List.mem_cons_of_mem)); exact mem0))) (H.int (by with_reducible ((repeat ((fail_if_success exact mem0); apply List.mem_cons_of_mem)); exact mem0)))) ?_; rintro e w6 ⟨⟨p6, v6, rfl, hv6, hb6⟩, H⟩; obtain ⟨r6s, hs6⟩ : ∃ sgn, sgn = decide (z < 0) := ⟨_, rfl⟩; rw [← hs6]; have hi := And.intro hv6 hs6; obtain ⟨r6t, r6a, r6n, rfl, rfl, -, -, -, -, -, -⟩ := hv6.form; replace ST := Lib.hid ((H.call hb6).know hi); clear hi H hv6 hb6 hs6; (first | clear q0 q1 q2 q3 q4 q5 q6 q7 q8 q9 q10 q11 | skip); obtain ⟨q0, q1, q2, q3, q4, q5, q6, q7, q8, q9, q10, q11⟩ := ST.out.rats (w.heap.size + 1 + 1, .int .u64 0, .slice none 0 0, false, .int .u64 0, .slice none 0 0, false) (by with_reducible ((repeat ((fail_if_success exact mem0); apply List.mem_cons_of_mem)); exact mem0)); dsimp only at q0 q1 q2 q3 q4 q5 q6 q7 q8 q9 q10 q11) | (go_at_call 147; refine St.arm (w := w) (by ((with_reducible iterate 4 try first | apply St.drew | apply St.alloc | apply St.allocR | apply St.putR); ((with_reducible exact ST.out); all_goals (first | rfl | (simp; done) | (simp; omega))))) (by intro H; with_reducible exact Op2.run OY (H.int (by with_reducible ((repeat ((fail_if_success exact mem0); apply List.mem_cons_of_mem)); exact mem0))) (H.int (by with_reducible ((repeat ((fail_if_success exact mem0); apply List.mem_cons_of_mem)); exact mem0)))) ?_; rintro e w7 ⟨⟨p7, v7, rfl, hv7, hb7⟩, H⟩; obtain ⟨r7s, hs7⟩ : ∃ sgn, sgn = decide (r < 0) := ⟨_, rfl⟩; rw [← hs7]; have hi := And.intro hv7 hs7; obtain ⟨r7t, r7a, r7n, rfl, rfl, -, -, -, -, -, -⟩ := hv7.form; replace ST := Lib.hid ((H.call hb7).know hi); clear hi H hv7 hb7 hs7; (first | clear q0 q1 q2 q3 q4 q5 q6 q7 q8 q9 q10 q11 | skip); obtain ⟨q0, q1, q2, q3, q4, q5, q6, q7, q8, q9, q10, q11⟩ := ST.out.rats (w.heap.size + 1 + 1, .int .u64 0, .slice none 0 0, false, .int .u64 0, .slice none 0 0, false) (by with_reducible ((repeat ((fail_if_success exact mem0); apply List.mem_cons_of_mem)); exact mem0)); dsimp only at q0 q1 q2 q3 q4 q5 q6 q7 q8 q9 q10 q11) | fail)
  all_goals
    go_wp2
    exact bodyPost_ret (v := .agg #[.int .u64 r6t, .slice r6a r6n r6n, .bool r6s, .int .u64 r7t, .slice r7a r7n r7n, .bool r7s]) (by simp [results, Tryz.results116, go_sem, q0, q1, q2, q3, q4, q5]) rfl (ST.out.giveR (k := w.heap.size + 1 + 1) (by with_reducible ((repeat ((fail_if_success exact mem0); apply List.mem_cons_of_mem)); exact mem0)) (by omega) (by with_reducible ((repeat ((fail_if_success exact mem0); apply List.mem_cons_of_mem)); exact mem0)) (by with_reducible ((repeat ((fail_if_success exact mem0); apply List.mem_cons_of_mem)); exact mem0)))
set_option maxHeartbeats 4000000 in
set_option maxRecDepth 100000 in
theorem quotient_pos (px vx : Value) (ix : Bool) (py vy : Value) (iy : Bool) (x y : Int) (w : World) (hx : IntV w px vx ix x) (hy : IntV w py vy iy y) (h0 : 0 < y) (hx9 : nl x.natAbs ≤ 20000) (hy9 : nl y.natAbs ≤ 20000) :
    Calls Tryz.prog 116 #[.agg #[px, vx, .bool ix], .agg #[py, vy, .bool iy]] w (GivesR (x.fdiv ((Int.gcd x y : Int))) (y.fdiv ((Int.gcd x y : Int))) w) := by
  have hg0 : (Int.gcd x y : Int) ≠ 0 := by have := Int.gcd_pos_of_ne_zero_right x (show y ≠ 0 by omega); omega
  have hg9 : nl (Int.gcd x y : Int) ≤ 20000 := nl_gcd hy9 (by omega)
  obtain ⟨g, hg⟩ : ∃ g : Int, (Int.gcd x y : Int) = g := ⟨_, rfl⟩
  have GC := Op2.gcd hg hx9 hy9
  rw [hg] at hg0 hg9
  rw [hg]
  obtain ⟨m, hm⟩ : ∃ m : Int, g = m := ⟨_, rfl⟩
  have hm0 : m ≠ 0 := by omega
  have hm9 : nl m.natAbs ≤ 40000 := by rw [← hm, show (g.natAbs : Int) = g by omega]; omega
  subst hm
  have hsg : sg y = 1 := by unfold sg; rw [if_neg (by omega), if_neg (by omega)]
  obtain ⟨z, hz⟩ : ∃ z : Int, x.fdiv g = z := ⟨_, rfl⟩
  obtain ⟨r, hr⟩ : ∃ r : Int, y.fdiv g = r := ⟨_, rfl⟩
  have OX := Op2.over hz hm0 (by omega) hm9
  have OY := Op2.over hr hm0 (by omega) hm9
  rw [hz, hr]
  clear hz hr hg hg0 hg9 hm0 hm9
  obtain ⟨xt, xa, xn, rfl, rfl, -, -, -, -, -, -⟩ := hx.1.form
  obtain ⟨xs, hxs⟩ : ∃ s, s = ix := ⟨_, rfl⟩; subst hxs
  obtain ⟨yt, ya, yn, rfl, rfl, -, -, -, -, -, -⟩ := hy.1.form
  obtain ⟨ys, hys⟩ : ∃ s, s = iy := ⟨_, rfl⟩; subst hys
  obtain ⟨W0, hW0⟩ : ∃ W0, W0 = (((w.alloc (.cells #[.int .u64 xt, .slice xa xn xn, .bool xs] 74)).alloc (.cells #[.int .u64 yt, .slice ya yn yn, .bool ys] 74)).alloc (.cells #[.int .u64 0, .slice none 0 0, .bool false, .int .u64 0, .slice none 0 0, .bool false] 76)) := ⟨_, rfl⟩
  have ST : St w W0 [(w.heap.size + 1 + 1, .int .u64 0, .slice none 0 0, false, .int .u64 0, .slice none 0 0, false)] [(w.heap.size + 1, .int .u64 yt, .slice ya yn yn, ys), (w.heap.size, .int .u64 xt, .slice xa xn xn, xs)] [(.int .u64 yt, .slice ya yn yn, ys, y), (.int .u64 xt, .slice xa xn xn, xs, x)] := by
    rw [hW0]
    exact (((((St.zero).know hx).know hy).alloc (k := w.heap.size) (t := 74) (by first | rfl | (simp; done) | (simp; omega))).alloc (k := w.heap.size + 1) (t := 74) (by first | rfl | (simp; done) | (simp; omega))).allocR (k := w.heap.size + 1 + 1) (t := 76) (by first | rfl | (simp; done) | (simp; omega))
  replace ST := Lib.hid ST
  clear hx hy h0 hx9 hy9
  go_enter Tryz.func116, Tryz.ntmps116
  go_wp2_with fail
  rw [← hW0]
  clear hW0
  obtain ⟨c0, c1, c2⟩ := ST.out.num (k := w.heap.size) (by with_reducible ((repeat ((fail_if_success exact mem0); apply List.mem_cons_of_mem)); exact mem0))
  obtain ⟨c3, c4, c5⟩ := ST.out.num (k := w.heap.size + 1) (by with_reducible ((repeat ((fail_if_success exact mem0); apply List.mem_cons_of_mem)); exact mem0))
  go_wp2_with fail
  refine Calls.mono (Op2.run GC (ST.out.int (by with_reducible ((repeat ((fail_if_success exact mem0); apply List.mem_cons_of_mem)); exact mem0))) (ST.out.int (by with_reducible ((repeat ((fail_if_success exact mem0); apply List.mem_cons_of_mem)); exact mem0)))) ?_
  rintro e w1 ⟨p1, v1, rfl, hv1, hb1⟩
  obtain ⟨r1s, hs1⟩ : ∃ sgn, sgn = decide (g < 0) := ⟨_, rfl⟩
  rw [← hs1]
  have hi := And.intro hv1 hs1
  obtain ⟨r1t, r1a, r1n, rfl, rfl, -, -, -, -, -, -⟩ := hv1.form
  replace ST := Lib.hid ((ST.out.call hb1).know hi)
  clear hi hv1 hb1 hs1
  clear c0 c1 c2 c3 c4 c5
  go_upto_region 2 with fail
  obtain ⟨W2, hW2⟩ : ∃ W2, W2 = w1.alloc (.cells #[.int .u64 r1t, .slice r1a r1n r1n, .bool r1s] 74) := ⟨_, rfl⟩
  rw [← hW2]
  replace ST := ST.out.alloc (p := .int .u64 r1t) (v := .slice r1a r1n r1n) (b := r1s) (t := 74) (k := w1.heap.size) (by first | rfl | (simp; done) | (simp; omega))
  rw [← hW2] at ST
  clear hW2
  replace ST := Lib.hid ST
  obtain ⟨k, hk⟩ : ∃ k, k = w1.heap.size := ⟨_, rfl⟩
  rw [← hk] at ST ⊢
  clear hk
  obtain ⟨c3, c4, c5⟩ := ST.out.num (k := w.heap.size + 1) (by with_reducible ((repeat ((fail_if_success exact mem0); apply List.mem_cons_of_mem)); exact mem0))
  go_wp2_with fail
  refine Calls.mono (SignN_any _ _ y _ _ (ST.out.int (x := y) (by with_reducible ((repeat ((fail_if_success exact mem0); apply List.mem_cons_of_mem)); exact mem0))).1 (ST.out.int (x := y) (by with_reducible ((repeat ((fail_if_success exact mem0); apply List.mem_cons_of_mem)); exact mem0))).2) ?_
  rintro e w3 ⟨rfl, hb3⟩
  replace ST := Lib.hid (ST.out.call hb3)
  rw [hsg]
  clear hb3
  clear c3 c4 c5
  obtain ⟨c0, c1, c2⟩ := ST.out.num (k := w.heap.size) (by with_reducible ((repeat ((fail_if_success exact mem0); apply List.mem_cons_of_mem)); exact mem0))
  obtain ⟨c3, c4, c5⟩ := ST.out.num (k := w.heap.size + 1) (by with_reducible ((repeat ((fail_if_success exact mem0); apply List.mem_cons_of_mem)); exact mem0))
  obtain ⟨c6, c7, c8⟩ := ST.out.num (k := k) (by with_reducible ((repeat ((fail_if_success exact mem0); apply List.mem_cons_of_mem)); exact mem0))
  go_upto_region 4 with fail
  clear c0 c1 c2 c3 c4 c5 c6 c7 c8
  (first | clear q0 q1 q2 q3 q4 q5 q6 q7 q8 q9 q10 q11 | skip); obtain ⟨q0, q1, q2, q3, q4, q5, q6, q7, q8, q9, q10, q11⟩ := ST.out.rats (w.heap.size + 1 + 1, .int .u64 0, .slice none 0 0, false, .int .u64 0, .slice none 0 0, false) (by with_reducible ((repeat ((fail_if_success exact mem0); apply List.mem_cons_of_mem)); exact mem0)); dsimp only at q0 q1 q2 q3 q4 q5 q6 q7 q8 q9 q10 q11
  go_region_held3 (fun W => (W.cell? ⟨w.heap.size, 0, none⟩ = some (.int .u64 xt) ∧ W.cell? ⟨w.heap.size, 1, none⟩ = some (.slice xa xn xn) ∧ W.cell? ⟨w.heap.size, 2, none⟩ = some (.bool xs)) ∧ (W.cell? ⟨(w.heap.size + 1), 0, none⟩ = some (.int .u64 yt) ∧ W.cell? ⟨(w.heap.size + 1), 1, none⟩ = some (.slice ya yn yn) ∧ W.cell? ⟨(w.heap.size + 1), 2, none⟩ = some (.bool ys)) ∧ (W.cell? ⟨k, 0, none⟩ = some (.int .u64 r1t) ∧ W.cell? ⟨k, 1, none⟩ = some (.slice r1a r1n r1n) ∧ W.cell? ⟨k, 2, none⟩ = some (.bool r1s))) ((exact ⟨St.num (w := w) (by ((with_reducible iterate 4 try first | apply St.drew | apply St.alloc | apply St.allocR | apply St.putR); ((with_reducible exact ST.out); all_goals (first | rfl | (simp; done) | (simp; omega))))) (by with_reducible ((repeat ((fail_if_success exact mem0); apply List.mem_cons_of_mem)); exact mem0)), St.num (w := w) (by ((with_reducible iterate 4 try first | apply St.drew | apply St.alloc | apply St.allocR | apply St.putR); ((with_reducible exact ST.out); all_goals (first | rfl | (simp; done) | (simp; omega))))) (by with_reducible ((repeat ((fail_if_success exact mem0); apply List.mem_cons_of_mem)); exact mem0)), St.num (w := w) (by ((with_reducible iterate 4 try first | apply St.drew | apply St.alloc | apply St.allocR | apply St.putR); ((with_reducible exact ST.out); all_goals (first | rfl | (simp; done) | (simp; omega))))) (by with_reducible ((repeat ((fail_if_success exact mem0); apply List.mem_cons_of_mem)); exact mem0))⟩)) (first | (go_at_call 147; refine St.arm (w := w) (by ((with_reducible iterate 4 try first | apply St.drew | apply St.alloc | apply St.allocR | apply St.putR); ((with_reducible exact ST.out); all_goals (first | rfl | (simp; done) | (simp; omega))))) (by intro H; with_reducible exact Op2.run OX (H.int (by with_reducible ((repeat ((fail_if_success exact mem0); apply List.mem_cons_of_mem)); exact mem0))) (H.int (by with_reducible ((repeat ((fail_if_success exact mem0); apply List.mem_cons_of_mem)); exact mem0)))) ?_; rintro e w6 ⟨⟨p6, v6, rfl, hv6, hb6⟩, H⟩; obtain ⟨r6s, hs6⟩ : ∃ sgn, sgn = decide (z < 0) := ⟨_, rfl⟩; rw [← hs6]; have hi := And.intro hv6 hs6; obtain ⟨r6t, r6a, r6n, rfl, rfl, -, -, -, -, -, -⟩ := hv6.form; replace ST := Lib.hid ((H.call hb6).know hi); clear hi H hv6 hb6 hs6; (first | clear q0 q1 q2 q3 q4 q5 q6 q7 q8 q9 q10 q11 | skip); obtain ⟨q0, q1, q2, q3, q4, q5, q6, q7, q8, q9, q10, q11⟩ := ST.out.rats (w.heap.size + 1 + 1, .int .u64 0, .slice none 0 0, false, .int .u64 0, .slice none 0 0, false) (by with_reducible ((repeat ((fail_if_success exact mem0); apply List.mem_cons_of_mem)); exact mem0)); dsimp only at q0 q1 q2 q3 q4 q5 q6 q7 q8 q9 q10 q11) | (go_at_call 147; refine St.arm (w := w) (by ((with_reducible iterate 4 try first | apply St.drew | apply St.alloc | apply St.allocR | apply St.putR); ((with_reducible exact ST.out); all_goals (first | rfl | (simp; done) | (simp; omega))))) (by intro H; with_reducible exact Op2.run OY (H.int (by with_reducible ((repeat ((fail_if_success exact mem0); apply List.mem_cons_of_mem)); exact mem0))) (H.int (by with_reducible ((repeat ((fail_if_success exact mem0); apply List.mem_cons_of_mem)); exact mem0)))) ?_; rintro e w7 ⟨⟨p7, v7, rfl, hv7, hb7⟩, H⟩; obtain ⟨r7s, hs7⟩ : ∃ sgn, sgn = decide (r < 0) := ⟨_, rfl⟩; rw [← hs7]; have hi := And.intro hv7 hs7; obtain ⟨r7t, r7a, r7n, rfl, rfl, -, -, -, -, -, -⟩ := hv7.form; replace ST := Lib.hid ((H.call hb7).know hi); clear hi H hv7 hb7 hs7; (first | clear q0 q1 q2 q3 q4 q5 q6 q7 q8 q9 q10 q11 | skip); obtain ⟨q0, q1, q2, q3, q4, q5, q6, q7, q8, q9, q10, q11⟩ := ST.out.rats (w.heap.size + 1 + 1, .int .u64 0, .slice none 0 0, false, .int .u64 0, .slice none 0 0, false) (by with_reducible ((repeat ((fail_if_success exact mem0); apply List.mem_cons_of_mem)); exact mem0)); dsimp only at q0 q1 q2 q3 q4 q5 q6 q7 q8 q9 q10 q11) | fail)
  all_goals
    go_wp2
    exact bodyPost_ret (v := .agg #[.int .u64 r6t, .slice r6a r6n r6n, .bool r6s, .int .u64 r7t, .slice r7a r7n r7n, .bool r7s]) (by simp [results, Tryz.results116, go_sem, q0, q1, q2, q3, q4, q5]) rfl (ST.out.giveR (k := w.heap.size + 1 + 1) (by with_reducible ((repeat ((fail_if_success exact mem0); apply List.mem_cons_of_mem)); exact mem0)) (by omega) (by with_reducible ((repeat ((fail_if_success exact mem0); apply List.mem_cons_of_mem)); exact mem0)) (by with_reducible ((repeat ((fail_if_success exact mem0); apply List.mem_cons_of_mem)); exact mem0)))
end Go.Proofs.YtkhebidmfjbhaaaGreatDoor
