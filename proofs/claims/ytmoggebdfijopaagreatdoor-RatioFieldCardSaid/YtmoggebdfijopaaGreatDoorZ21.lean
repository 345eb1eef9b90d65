/-
  What inverse returns.
-/
import Derived.Test.YtmoggebdfijopaaGreatDoorZ18
import Derived.Deep.RegionHeld3
import Derived.Deep.Cut
namespace Go.Proofs.YtmoggebdfijopaaGreatDoor
open Go.RowKit

set_option maxHeartbeats 4000000 in
set_option maxRecDepth 100000 in
theorem inverse_neg (px vx : Value) (ix : Bool) (py vy : Value) (iy : Bool) (x y : Int) (w : World) (hx : IntV w px vx ix x) (hy : IntV w py vy iy y) (h0 : x < 0) :
    Calls Tryz.prog 150 #[.agg #[px, vx, .bool ix, py, vy, .bool iy]] w (GivesR (-y) (-x) w) := by
  obtain ⟨z, hz⟩ : ∃ z, -x = z := ⟨_, rfl⟩
  obtain ⟨r, hr⟩ : ∃ r, -y = r := ⟨_, rfl⟩
  have NX := Op1.neg hz
  have NY := Op1.neg hr
  have hsg : sg x = -1 := by unfold sg; rw [if_pos h0]
  rw [hz, hr]
  clear hz hr
  obtain ⟨xt, xa, xn, rfl, rfl, -, -, -, -, -, -⟩ := hx.1.form
  obtain ⟨xs, hxs⟩ : ∃ s, s = ix := ⟨_, rfl⟩; subst hxs
  obtain ⟨yt, ya, yn, rfl, rfl, -, -, -, -, -, -⟩ := hy.1.form
  obtain ⟨ys, hys⟩ : ∃ s, s = iy := ⟨_, rfl⟩; subst hys
  obtain ⟨W0, hW0⟩ : ∃ W0, W0 = ((w.alloc (.cells #[.int .u64 xt, .slice xa xn xn, .bool xs, .int .u64 yt, .slice ya yn yn, .bool ys] 76)).alloc (.cells #[.int .u64 0, .slice none 0 0, .bool false, .int .u64 0, .slice none 0 0, .bool false] 76)) := ⟨_, rfl⟩
  have ST : St w W0 [(w.heap.size + 1, .int .u64 0, .slice none 0 0, false, .int .u64 0, .slice none 0 0, false), (w.heap.size, .int .u64 xt, .slice xa xn xn, xs, .int .u64 yt, .slice ya yn yn, ys)] [] [(.int .u64 yt, .slice ya yn yn, ys, y), (.int .u64 xt, .slice xa xn xn, xs, x)] := by
    rw [hW0]
    exact ((((St.zero).know hx).know hy).allocR (k := w.heap.size) (t := 76) (by first | rfl | (simp; done) | (simp; omega))).allocR (k := w.heap.size + 1) (t := 76) (by first | rfl | (simp; done) | (simp; omega))
  replace ST := Lib.hid ST
  clear hx hy h0
  go_enter Tryz.func150, Tryz.ntmps150
  go_wp2_with fail
  rw [← hW0]
  clear hW0
  obtain ⟨c0, c1, c2, c3, c4, c5⟩ := ST.out.rat (k := w.heap.size) (by with_reducible ((repeat ((fail_if_success exact mem0); apply List.mem_cons_of_mem)); exact mem0))
  go_wp2_with fail
  refine Calls.mono (SignN_any _ _ x _ _ (ST.out.int (x := x) (by with_reducible ((repeat ((fail_if_success exact mem0); apply List.mem_cons_of_mem)); exact mem0))).1 (ST.out.int (x := x) (by with_reducible ((repeat ((fail_if_success exact mem0); apply List.mem_cons_of_mem)); exact mem0))).2) ?_
  rintro e w1 ⟨rfl, hb1⟩
  replace ST := Lib.hid (ST.out.call hb1)
  rw [hsg]
  clear hb1
  clear c0 c1 c2 c3 c4 c5
  obtain ⟨c0, c1, c2, c3, c4, c5⟩ := ST.out.rat (k := w.heap.size) (by with_reducible ((repeat ((fail_if_success exact mem0); apply List.mem_cons_of_mem)); exact mem0))
  (first | clear q0 q1 q2 q3 q4 q5 q6 q7 q8 q9 q10 q11 | skip); obtain ⟨q0, q1, q2, q3, q4, q5, q6, q7, q8, q9, q10, q11⟩ := ST.out.rats (w.heap.size + 1, .int .u64 0, .slice none 0 0, false, .int .u64 0, .slice none 0 0, false) (by with_reducible ((repeat ((fail_if_success exact mem0); apply List.mem_cons_of_mem)); exact mem0)); dsimp only at q0 q1 q2 q3 q4 q5 q6 q7 q8 q9 q10 q11
  go_upto_region 2 with fail
  go_region_held3 (fun W => (W.cell? ⟨w.heap.size, 0, none⟩ = some (.int .u64 xt) ∧ W.cell? ⟨w.heap.size, 1, none⟩ = some (.slice xa xn xn) ∧ W.cell? ⟨w.heap.size, 2, none⟩ = some (.bool xs) ∧ W.cell? ⟨w.heap.size, 3, none⟩ = some (.int .u64 yt) ∧ W.cell? ⟨w.heap.size, 4, none⟩ = some (.slice ya yn yn) ∧ W.cell? ⟨w.heap.size, 5, none⟩ = some (.bool ys))) ((exact St.rat (w := w) (by ((with_reducible iterate 4 try first | apply St.drew | apply St.alloc | apply St.allocR | apply St.putR); ((with_reducible exact ST.out); all_goals (first | rfl | (simp; done) | (simp; omega))))) (by with_reducible ((repeat ((fail_if_success exact mem0); apply List.mem_cons_of_mem)); exact mem0)))) (first | (go_at_call 159; refine St.arm (w := w) (by ((with_reducible iterate 4 try first | apply St.drew | apply St.alloc | apply St.allocR | apply St.putR); ((with_reducible exact ST.out); all_goals (first | rfl | (simp; done) | (simp; omega))))) (by intro H; with_reducible exact Op1.run NX (H.int (by with_reducible ((repeat ((fail_if_success exact mem0); apply List.mem_cons_of_mem)); exact mem0)))) ?_; rintro e w2 ⟨⟨p2, v2, rfl, hv2, hb2⟩, H⟩; obtain ⟨r2s, hs2⟩ : ∃ sgn, sgn = decide (z < 0) := ⟨_, rfl⟩; rw [← hs2]; have hi := And.intro hv2 hs2; obtain ⟨r2t, r2a, r2n, rfl, rfl, -, -, -, -, -, -⟩ := hv2.form; replace ST := Lib.hid ((H.call hb2).know hi); clear hi H hv2 hb2 hs2; (first | clear q0 q1 q2 q3 q4 q5 q6 q7 q8 q9 q10 q11 | skip); obtain ⟨q0, q1, q2, q3, q4, q5, q6, q7, q8, q9, q10, q11⟩ := ST.out.rats (w.heap.size + 1, .int .u64 0, .slice none 0 0, false, .int .u64 0, .slice none 0 0, false) (by with_reducible ((repeat ((fail_if_success exact mem0); apply List.mem_cons_of_mem)); exact mem0)); dsimp only at q0 q1 q2 q3 q4 q5 q6 q7 q8 q9 q10 q11) | (go_at_call 159; refine St.arm (w := w) (by ((with_reducible iterate 4 try first | apply St.drew | apply St.alloc | apply St.allocR | apply St.putR); ((with_reducible exact ST.out); all_goals (first | rfl | (simp; done) | (simp; omega))))) (by intro H; with_reducible exact Op1.run NY (H.int (by with_reducible ((repeat ((fail_if_success exact mem0); apply List.mem_cons_of_mem)); exact mem0)))) ?_; rintro e w3 ⟨⟨p3, v3, rfl, hv3, hb3⟩, H⟩; obtain ⟨r3s, hs3⟩ : ∃ sgn, sgn = decide (r < 0) := ⟨_, rfl⟩; rw [← hs3]; have hi := And.intro hv3 hs3; obtain ⟨r3t, r3a, r3n, rfl, rfl, -, -, -, -, -, -⟩ := hv3.form; replace ST := Lib.hid ((H.call hb3).know hi); clear hi H hv3 hb3 hs3; (first | clear q0 q1 q2 q3 q4 q5 q6 q7 q8 q9 q10 q11 | skip); obtain ⟨q0, q1, q2, q3, q4, q5, q6, q7, q8, q9, q10, q11⟩ := ST.out.rats (w.heap.size + 1, .int .u64 0, .slice none 0 0, false, .int .u64 0, .slice none 0 0, false) (by with_reducible ((repeat ((fail_if_success exact mem0); apply List.mem_cons_of_mem)); exact mem0)); dsimp only at q0 q1 q2 q3 q4 q5 q6 q7 q8 q9 q10 q11) | fail)
  all_goals
    go_wp2
    exact bodyPost_ret (v := .agg #[.int .u64 r3t, .slice r3a r3n r3n, .bool r3s, .int .u64 r2t, .slice r2a r2n r2n, .bool r2s]) (by simp [results, Tryz.results150, go_sem, q0, q1, q2, q3, q4, q5]) rfl (ST.out.giveR (k := w.heap.size + 1) (by with_reducible ((repeat ((fail_if_success exact mem0); apply List.mem_cons_of_mem)); exact mem0)) (by omega) (by with_reducible ((repeat ((fail_if_success exact mem0); apply List.mem_cons_of_mem)); exact mem0)) (by with_reducible ((repeat ((fail_if_success exact mem0); apply List.mem_cons_of_mem)); exact mem0)))
set_option maxHeartbeats 4000000 in
set_option maxRecDepth 100000 in
theorem inverse_pos (px vx : Value) (ix : Bool) (py vy : Value) (iy : Bool) (x y : Int) (w : World) (hx : IntV w px vx ix x) (hy : IntV w py vy iy y) (h0 : 0 < x) :
    Calls Tryz.prog 150 #[.agg #[px, vx, .bool ix, py, vy, .bool iy]] w (GivesR y x w) := by
  have hsg : sg x = 1 := by unfold sg; rw [if_neg (by omega), if_neg (by omega)]
  obtain ⟨xt, xa, xn, rfl, rfl, -, -, -, -, -, -⟩ := hx.1.form
  obtain ⟨xs, hxs⟩ : ∃ s, s = ix := ⟨_, rfl⟩; subst hxs
  obtain ⟨yt, ya, yn, rfl, rfl, -, -, -, -, -, -⟩ := hy.1.form
  obtain ⟨ys, hys⟩ : ∃ s, s = iy := ⟨_, rfl⟩; subst hys
  obtain ⟨W0, hW0⟩ : ∃ W0, W0 = ((w.alloc (.cells #[.int .u64 xt, .slice xa xn xn, .bool xs, .int .u64 yt, .slice ya yn yn, .bool ys] 76)).alloc (.cells #[.int .u64 0, .slice none 0 0, .bool false, .int .u64 0, .slice none 0 0, .bool false] 76)) := ⟨_, rfl⟩
  have ST : St w W0 [(w.heap.size + 1, .int .u64 0, .slice none 0 0, false, .int .u64 0, .slice none 0 0, false), (w.heap.size, .int .u64 xt, .slice xa xn xn, xs, .int .u64 yt, .slice ya yn yn, ys)] [] [(.int .u64 yt, .slice ya yn yn, ys, y), (.int .u64 xt, .slice xa xn xn, xs, x)] := by
    rw [hW0]
    exact ((((St.zero).know hx).know hy).allocR (k := w.heap.size) (t := 76) (by first | rfl | (simp; done) | (simp; omega))).allocR (k := w.heap.size + 1) (t := 76) (by first | rfl | (simp; done) | (simp; omega))
  replace ST := Lib.hid ST
  clear hx hy h0
  go_enter Tryz.func150, Tryz.ntmps150
  go_wp2_with fail
  rw [← hW0]
  clear hW0
  obtain ⟨c0, c1, c2, c3, c4, c5⟩ := ST.out.rat (k := w.heap.size) (by with_reducible ((repeat ((fail_if_success exact mem0); apply List.mem_cons_of_mem)); exact mem0))
  go_wp2_with fail
  refine Calls.mono (SignN_any _ _ x _ _ (ST.out.int (x := x) (by with_reducible ((repeat ((fail_if_success exact mem0); apply List.mem_cons_of_mem)); exact mem0))).1 (ST.out.int (x := x) (by with_reducible ((repeat ((fail_if_success exact mem0); apply List.mem_cons_of_mem)); exact mem0))).2) ?_
  rintro e w1 ⟨rfl, hb1⟩
  replace ST := Lib.hid (ST.out.call hb1)
  rw [hsg]
  clear hb1
  clear c0 c1 c2 c3 c4 c5
  obtain ⟨c0, c1, c2, c3, c4, c5⟩ := ST.out.rat (k := w.heap.size) (by with_reducible ((repeat ((fail_if_success exact mem0); apply List.mem_cons_of_mem)); exact mem0))
  (first | clear q0 q1 q2 q3 q4 q5 q6 q7 q8 q9 q10 q11 | skip); obtain ⟨q0, q1, q2, q3, q4, q5, q6, q7, q8, q9, q10, q11⟩ := ST.out.rats (w.heap.size + 1, .int .u64 0, .slice none 0 0, false, .int .u64 0, .slice none 0 0, false) (by with_reducible ((repeat ((fail_if_success exact mem0); apply List.mem_cons_of_mem)); exact mem0)); dsimp only at q0 q1 q2 q3 q4 q5 q6 q7 q8 q9 q10 q11
  all_goals
    go_wp2
    exact bodyPost_ret (v := .agg #[.int .u64 yt, .slice ya yn yn, .bool ys, .int .u64 xt, .slice xa xn xn, .bool xs]) (by simp [results, Tryz.results150, go_sem, q0, q1, q2, q3, q4, q5]) rfl (ST.out.giveR (k := w.heap.size + 1) (by with_reducible ((repeat ((fail_if_success exact mem0); apply List.mem_cons_of_mem)); exact mem0)) (by omega) (by with_reducible ((repeat ((fail_if_success exact mem0); apply List.mem_cons_of_mem)); exact mem0)) (by with_reducible ((repeat ((fail_if_success exact mem0); apply List.mem_cons_of_mem)); exact mem0)))
end Go.Proofs.YtmoggebdfijopaaGreatDoor
