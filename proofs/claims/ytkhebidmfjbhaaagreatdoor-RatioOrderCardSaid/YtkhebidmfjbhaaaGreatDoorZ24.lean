/-
  What minus, by and middle return.
-/
import Derived.Test.YtkhebidmfjbhaaaGreatDoorZ23
import Derived.Deep.RegionHeld3
import Derived.Deep.Cut
namespace Go.Proofs.YtkhebidmfjbhaaaGreatDoor
open Go.RowKit

set_option maxHeartbeats 4000000 in
set_option maxRecDepth 100000 in
theorem minus_raw (px vx : Value) (ix : Bool) (py vy : Value) (iy : Bool) (pz vz : Value) (iz : Bool) (pr vr : Value) (ir : Bool) (x y z r : Int) (w : World) (hx : IntV w px vx ix x) (hy : IntV w py vy iy y) (hz : IntV w pz vz iz z) (hr : IntV w pr vr ir r) (m n s t : Int) (C1 : OpR1 126 z r m n) (C2 : OpR2 94 x y m n s t) :
    Calls Tryz.prog 97 #[.agg #[px, vx, .bool ix, py, vy, .bool iy], .agg #[pz, vz, .bool iz, pr, vr, .bool ir]] w (GivesR s t w) := by
  obtain ⟨xt, xa, xn, rfl, rfl, -, -, -, -, -, -⟩ := hx.1.form
  obtain ⟨xs, hxs⟩ : ∃ s, s = ix := ⟨_, rfl⟩; subst hxs
  obtain ⟨yt, ya, yn, rfl, rfl, -, -, -, -, -, -⟩ := hy.1.form
  obtain ⟨ys, hys⟩ : ∃ s, s = iy := ⟨_, rfl⟩; subst hys
  obtain ⟨zt, za, zn, rfl, rfl, -, -, -, -, -, -⟩ := hz.1.form
  obtain ⟨zs, hzs⟩ : ∃ s, s = iz := ⟨_, rfl⟩; subst hzs
  obtain ⟨rt, ra, rn, rfl, rfl, -, -, -, -, -, -⟩ := hr.1.form
  obtain ⟨rs, hrs⟩ : ∃ s, s = ir := ⟨_, rfl⟩; subst hrs
  obtain ⟨W0, hW0⟩ : ∃ W0, W0 = (((w.alloc (.cells #[.int .u64 xt, .slice xa xn xn, .bool xs, .int .u64 yt, .slice ya yn yn, .bool ys] 76)).alloc (.cells #[.int .u64 zt, .slice za zn zn, .bool zs, .int .u64 rt, .slice ra rn rn, .bool rs] 76)).alloc (.cells #[.int .u64 0, .slice none 0 0, .bool false, .int .u64 0, .slice none 0 0, .bool false] 76)) := ⟨_, rfl⟩
  have ST : St w W0 [(w.heap.size + 1 + 1, .int .u64 0, .slice none 0 0, false, .int .u64 0, .slice none 0 0, false), (w.heap.size + 1, .int .u64 zt, .slice za zn zn, zs, .int .u64 rt, .slice ra rn rn, rs), (w.heap.size, .int .u64 xt, .slice xa xn xn, xs, .int .u64 yt, .slice ya yn yn, ys)] [] [(.int .u64 rt, .slice ra rn rn, rs, r), (.int .u64 zt, .slice za zn zn, zs, z), (.int .u64 yt, .slice ya yn yn, ys, y), (.int .u64 xt, .slice xa xn xn, xs, x)] := by
    rw [hW0]
    exact (((((((St.zero).know hx).know hy).know hz).know hr).allocR (k := w.heap.size) (t := 76) (by first | rfl | (simp; done) | (simp; omega))).allocR (k := w.heap.size + 1) (t := 76) (by first | rfl | (simp; done) | (simp; omega))).allocR (k := w.heap.size + 1 + 1) (t := 76) (by first | rfl | (simp; done) | (simp; omega))
  replace ST := Lib.hid ST
  clear hx hy hz hr
  go_enter Tryz.func97, Tryz.ntmps97
  go_wp2_with fail
  rw [← hW0]
  clear hW0
  go_upto_region 1 with fail
  (first | clear q0 q1 q2 q3 q4 q5 q6 q7 q8 q9 q10 q11 | skip); obtain ⟨q0, q1, q2, q3, q4, q5, q6, q7, q8, q9, q10, q11⟩ := ST.out.rats (w.heap.size + 1 + 1, .int .u64 0, .slice none 0 0, false, .int .u64 0, .slice none 0 0, false) (by with_reducible ((repeat ((fail_if_success exact mem0); apply List.mem_cons_of_mem)); exact mem0)); dsimp only at q0 q1 q2 q3 q4 q5 q6 q7 q8 q9 q10 q11
  go_region_held3 (fun W => (W.cell? ⟨w.heap.size, 0, none⟩ = some (.int .u64 xt) ∧ W.cell? ⟨w.heap.size, 1, none⟩ = some (.slice xa xn xn) ∧ W.cell? ⟨w.heap.size, 2, none⟩ = some (.bool xs) ∧ W.cell? ⟨w.heap.size, 3, none⟩ = some (.int .u64 yt) ∧ W.cell? ⟨w.heap.size, 4, none⟩ = some (.slice ya yn yn) ∧ W.cell? ⟨w.heap.size, 5, none⟩ = some (.bool ys)) ∧ (W.cell? ⟨(w.heap.size + 1), 0, none⟩ = some (.int .u64 zt) ∧ W.cell? ⟨(w.heap.size + 1), 1, none⟩ = some (.slice za zn zn) ∧ W.cell? ⟨(w.heap.size + 1), 2, none⟩ = some (.bool zs) ∧ W.cell? ⟨(w.heap.size + 1), 3, none⟩ = some (.int .u64 rt) ∧ W.cell? ⟨(w.heap.size + 1), 4, none⟩ = some (.slice ra rn rn) ∧ W.cell? ⟨(w.heap.size + 1), 5, none⟩ = some (.bool rs))) ((exact ⟨St.rat (w := w) (by ((with_reducible iterate 4 try first | apply St.drew | apply St.alloc | apply St.allocR | apply St.putR); ((with_reducible exact ST.out); all_goals (first | rfl | (simp; done) | (simp; omega))))) (by with_reducible ((repeat ((fail_if_success exact mem0); apply List.mem_cons_of_mem)); exact mem0)), St.rat (w := w) (by ((with_reducible iterate 4 try first | apply St.drew | apply St.alloc | apply St.allocR | apply St.putR); ((with_reducible exact ST.out); all_goals (first | rfl | (simp; done) | (simp; omega))))) (by with_reducible ((repeat ((fail_if_success exact mem0); apply List.mem_cons_of_mem)); exact mem0))⟩)) (first | (go_at_call 126; refine St.arm (w := w) (by ((with_reducible iterate 4 try first | apply St.drew | apply St.alloc | apply St.allocR | apply St.putR); ((with_reducible exact ST.out); all_goals (first | rfl | (simp; done) | (simp; omega))))) (by intro H; with_reducible exact OpR1.run C1 (H.int (by with_reducible ((repeat ((fail_if_success exact mem0); apply List.mem_cons_of_mem)); exact mem0))) (H.int (by with_reducible ((repeat ((fail_if_success exact mem0); apply List.mem_cons_of_mem)); exact mem0)))) ?_; rintro e w7 ⟨⟨p7, v7, o7, u7, rfl, hv7, hu7, hb7⟩, H⟩; obtain ⟨r7s, hs7⟩ : ∃ sgn, sgn = decide (m < 0) := ⟨_, rfl⟩; obtain ⟨q7s, ht7⟩ : ∃ sgn, sgn = decide (n < 0) := ⟨_, rfl⟩; rw [← hs7, ← ht7]; have hi := And.intro hv7 hs7; have hj := And.intro hu7 ht7; obtain ⟨r7t, r7a, r7n, rfl, rfl, -, -, -, -, -, -⟩ := hv7.form; obtain ⟨q7t, q7a, q7n, rfl, rfl, -, -, -, -, -, -⟩ := hu7.form; replace ST := Lib.hid (((H.call hb7).know hj).know hi); clear hi hj H hv7 hu7 hb7 hs7 ht7; (first | clear q0 q1 q2 q3 q4 q5 q6 q7 q8 q9 q10 q11 | skip); obtain ⟨q0, q1, q2, q3, q4, q5, q6, q7, q8, q9, q10, q11⟩ := ST.out.rats (w.heap.size + 1 + 1, .int .u64 0, .slice none 0 0, false, .int .u64 0, .slice none 0 0, false) (by with_reducible ((repeat ((fail_if_success exact mem0); apply List.mem_cons_of_mem)); exact mem0)); dsimp only at q0 q1 q2 q3 q4 q5 q6 q7 q8 q9 q10 q11) | (go_at_call 94; refine St.arm (w := w) (by ((with_reducible iterate 4 try first | apply St.drew | apply St.alloc | apply St.allocR | apply St.putR); ((with_reducible exact ST.out); all_goals (first | rfl | (simp; done) | (simp; omega))))) (by intro H; with_reducible exact OpR2.run C2 (H.int (by with_reducible ((repeat ((fail_if_success exact mem0); apply List.mem_cons_of_mem)); exact mem0))) (H.int (by with_reducible ((repeat ((fail_if_success exact mem0); apply List.mem_cons_of_mem)); exact mem0))) (H.int (by with_reducible ((repeat ((fail_if_success exact mem0); apply List.mem_cons_of_mem)); exact mem0))) (H.int (by with_reducible ((repeat ((fail_if_success exact mem0); apply List.mem_cons_of_mem)); exact mem0)))) ?_; rintro e w8 ⟨⟨p8, v8, o8, u8, rfl, hv8, hu8, hb8⟩, H⟩; obtain ⟨r8s, hs8⟩ : ∃ sgn, sgn = decide (s < 0) := ⟨_, rfl⟩; obtain ⟨q8s, ht8⟩ : ∃ sgn, sgn = decide (t < 0) := ⟨_, rfl⟩; rw [← hs8, ← ht8]; have hi := And.intro hv8 hs8; have hj := And.intro hu8 ht8; obtain ⟨r8t, r8a, r8n, rfl, rfl, -, -, -, -, -, -⟩ := hv8.form; obtain ⟨q8t, q8a, q8n, rfl, rfl, -, -, -, -, -, -⟩ := hu8.form; replace ST := Lib.hid (((H.call hb8).know hj).know hi); clear hi hj H hv8 hu8 hb8 hs8 ht8; (first | clear q0 q1 q2 q3 q4 q5 q6 q7 q8 q9 q10 q11 | skip); obtain ⟨q0, q1, q2, q3, q4, q5, q6, q7, q8, q9, q10, q11⟩ := ST.out.rats (w.heap.size + 1 + 1, .int .u64 0, .slice none 0 0, false, .int .u64 0, .slice none 0 0, false) (by with_reducible ((repeat ((fail_if_success exact mem0); apply List.mem_cons_of_mem)); exact mem0)); dsimp only at q0 q1 q2 q3 q4 q5 q6 q7 q8 q9 q10 q11) | fail)
  all_goals
    go_wp2
    exact bodyPost_ret (v := .agg #[.int .u64 r8t, .slice r8a r8n r8n, .bool r8s, .int .u64 q8t, .slice q8a q8n q8n, .bool q8s]) (by simp [results, Tryz.results97, go_sem, q0, q1, q2, q3, q4, q5]) rfl (ST.out.giveR (k := w.heap.size + 1 + 1) (by with_reducible ((repeat ((fail_if_success exact mem0); apply List.mem_cons_of_mem)); exact mem0)) (by omega) (by with_reducible ((repeat ((fail_if_success exact mem0); apply List.mem_cons_of_mem)); exact mem0)) (by with_reducible ((repeat ((fail_if_success exact mem0); apply List.mem_cons_of_mem)); exact mem0)))
set_option maxHeartbeats 4000000 in
set_option maxRecDepth 100000 in
theorem middle_raw (px vx : Value) (ix : Bool) (py vy : Value) (iy : Bool) (pz vz : Value) (iz : Bool) (pr vr : Value) (ir : Bool) (x y z r : Int) (w : World) (hx : IntV w px vx ix x) (hy : IntV w py vy iy y) (hz : IntV w pz vz iz z) (hr : IntV w pr vr ir r) (m n s t : Int) (C1 : OpR2 94 x y z r m n) (C2 : OpR2 99 m n 1 2 s t) :
    Calls Tryz.prog 105 #[.agg #[px, vx, .bool ix, py, vy, .bool iy], .agg #[pz, vz, .bool iz, pr, vr, .bool ir]] w (GivesR s t w) := by
  obtain ⟨xt, xa, xn, rfl, rfl, -, -, -, -, -, -⟩ := hx.1.form
  obtain ⟨xs, hxs⟩ : ∃ s, s = ix := ⟨_, rfl⟩; subst hxs
  obtain ⟨yt, ya, yn, rfl, rfl, -, -, -, -, -, -⟩ := hy.1.form
  obtain ⟨ys, hys⟩ : ∃ s, s = iy := ⟨_, rfl⟩; subst hys
  obtain ⟨zt, za, zn, rfl, rfl, -, -, -, -, -, -⟩ := hz.1.form
  obtain ⟨zs, hzs⟩ : ∃ s, s = iz := ⟨_, rfl⟩; subst hzs
  obtain ⟨rt, ra, rn, rfl, rfl, -, -, -, -, -, -⟩ := hr.1.form
  obtain ⟨rs, hrs⟩ : ∃ s, s = ir := ⟨_, rfl⟩; subst hrs
  obtain ⟨W0, hW0⟩ : ∃ W0, W0 = (((w.alloc (.cells #[.int .u64 xt, .slice xa xn xn, .bool xs, .int .u64 yt, .slice ya yn yn, .bool ys] 76)).alloc (.cells #[.int .u64 zt, .slice za zn zn, .bool zs, .int .u64 rt, .slice ra rn rn, .bool rs] 76)).alloc (.cells #[.int .u64 0, .slice none 0 0, .bool false, .int .u64 0, .slice none 0 0, .bool false] 76)) := ⟨_, rfl⟩
  have ST : St w W0 [(w.heap.size + 1 + 1, .int .u64 0, .slice none 0 0, false, .int .u64 0, .slice none 0 0, false), (w.heap.size + 1, .int .u64 zt, .slice za zn zn, zs, .int .u64 rt, .slice ra rn rn, rs), (w.heap.size, .int .u64 xt, .slice xa xn xn, xs, .int .u64 yt, .slice ya yn yn, ys)] [] [(.int .u64 rt, .slice ra rn rn, rs, r), (.int .u64 zt, .slice za zn zn, zs, z), (.int .u64 yt, .slice ya yn yn, ys, y), (.int .u64 xt, .slice xa xn xn, xs, x)] := by
    rw [hW0]
    exact (((((((St.zero).know hx).know hy).know hz).know hr).allocR (k := w.heap.size) (t := 76) (by first | rfl | (simp; done) | (simp; omega))).allocR (k := w.heap.size + 1) (t := 76) (by first | rfl | (simp; done) | (simp; omega))).allocR (k := w.heap.size + 1 + 1) (t := 76) (by first | rfl | (simp; done) | (simp; omega))
  replace ST := Lib.hid ST
  clear hx hy hz hr
  go_enter Tryz.func105, Tryz.ntmps105
  go_wp2_with fail
  rw [← hW0]
  clear hW0
  go_upto_region 1 with fail
  (first | clear q0 q1 q2 q3 q4 q5 q6 q7 q8 q9 q10 q11 | skip); obtain ⟨q0, q1, q2, q3, q4, q5, q6, q7, q8, q9, q10, q11⟩ := ST.out.rats (w.heap.size + 1 + 1, .int .u64 0, .slice none 0 0, false, .int .u64 0, .slice none 0 0, false) (by with_reducible ((repeat ((fail_if_success exact mem0); apply List.mem_cons_of_mem)); exact mem0)); dsimp only at q0 q1 q2 q3 q4 q5 q6 q7 q8 q9 q10 q11
  obtain ⟨c0, c1, c2, c3, c4, c5⟩ := ST.out.rat (k := w.heap.size) (by with_reducible ((repeat ((fail_if_success exact mem0); apply List.mem_cons_of_mem)); exact mem0))
  obtain ⟨d0, d1, d2, d3, d4, d5⟩ := ST.out.rat (k := w.heap.size + 1) (by with_reducible ((repeat ((fail_if_success exact mem0); apply List.mem_cons_of_mem)); exact mem0))
  go_wp2_with fail
  refine St.arm (w := w) (by ((with_reducible iterate 4 try first | apply St.drew | apply St.alloc | apply St.allocR | apply St.putR); ((with_reducible exact ST.out); all_goals (first | rfl | (simp; done) | (simp; omega))))) (by intro H; with_reducible exact OpR2.run C1 (H.int (by with_reducible ((repeat ((fail_if_success exact mem0); apply List.mem_cons_of_mem)); exact mem0))) (H.int (by with_reducible ((repeat ((fail_if_success exact mem0); apply List.mem_cons_of_mem)); exact mem0))) (H.int (by with_reducible ((repeat ((fail_if_success exact mem0); apply List.mem_cons_of_mem)); exact mem0))) (H.int (by with_reducible ((repeat ((fail_if_success exact mem0); apply List.mem_cons_of_mem)); exact mem0)))) ?_
  rintro e w7 ⟨⟨p7, v7, o7, u7, rfl, hv7, hu7, hb7⟩, H⟩
  obtain ⟨r7s, hs7⟩ : ∃ sgn, sgn = decide (m < 0) := ⟨_, rfl⟩
  obtain ⟨q7s, ht7⟩ : ∃ sgn, sgn = decide (n < 0) := ⟨_, rfl⟩
  rw [← hs7, ← ht7]
  have hi := And.intro hv7 hs7
  have hj := And.intro hu7 ht7
  obtain ⟨r7t, r7a, r7n, rfl, rfl, -, -, -, -, -, -⟩ := hv7.form
  obtain ⟨q7t, q7a, q7n, rfl, rfl, -, -, -, -, -, -⟩ := hu7.form
  replace ST := Lib.hid (((H.call hb7).know hj).know hi)
  clear hi hj H hv7 hu7 hb7 hs7 ht7
  clear c0 c1 c2 c3 c4 c5 d0 d1 d2 d3 d4 d5
  go_wp2_with fail
  refine St.arm (w := w) (by ((with_reducible iterate 4 try first | apply St.drew | apply St.alloc | apply St.allocR | apply St.putR); ((with_reducible exact ST.out); all_goals (first | rfl | (simp; done) | (simp; omega))))) (by intro H; with_reducible exact OfZ_any 1 _ (by decide) (by decide)) ?_
  rintro e w8 ⟨⟨p8, v8, rfl, hv8, hb8⟩, H⟩
  obtain ⟨r8s, hs8⟩ : ∃ sgn, sgn = decide ((1 : Int) < 0) := ⟨_, rfl⟩
  rw [← hs8]
  have hi := And.intro hv8 hs8
  obtain ⟨r8t, r8a, r8n, rfl, rfl, -, -, -, -, -, -⟩ := hv8.form
  replace ST := Lib.hid ((H.call hb8).know hi)
  clear hi H hv8 hb8 hs8
  go_wp2_with fail
  refine St.arm (w := w) (by ((with_reducible iterate 4 try first | apply St.drew | apply St.alloc | apply St.allocR | apply St.putR); ((with_reducible exact ST.out); all_goals (first | rfl | (simp; done) | (simp; omega))))) (by intro H; with_reducible exact OfZ_any 2 _ (by decide) (by decide)) ?_
  rintro e w9 ⟨⟨p9, v9, rfl, hv9, hb9⟩, H⟩
  obtain ⟨r9s, hs9⟩ : ∃ sgn, sgn = decide ((2 : Int) < 0) := ⟨_, rfl⟩
  rw [← hs9]
  have hi := And.intro hv9 hs9
  obtain ⟨r9t, r9a, r9n, rfl, rfl, -, -, -, -, -, -⟩ := hv9.form
  replace ST := Lib.hid ((H.call hb9).know hi)
  clear hi H hv9 hb9 hs9
  go_wp2_with fail
  refine St.arm (w := w) (by ((with_reducible iterate 4 try first | apply St.drew | apply St.alloc | apply St.allocR | apply St.putR); ((with_reducible exact ST.out); all_goals (first | rfl | (simp; done) | (simp; omega))))) (by intro H; with_reducible exact OpR2.run C2 (H.int (by with_reducible ((repeat ((fail_if_success exact mem0); apply List.mem_cons_of_mem)); exact mem0))) (H.int (by with_reducible ((repeat ((fail_if_success exact mem0); apply List.mem_cons_of_mem)); exact mem0))) (H.int (by with_reducible ((repeat ((fail_if_success exact mem0); apply List.mem_cons_of_mem)); exact mem0))) (H.int (by with_reducible ((repeat ((fail_if_success exact mem0); apply List.mem_cons_of_mem)); exact mem0)))) ?_
  rintro e w11 ⟨⟨p11, v11, o11, u11, rfl, hv11, hu11, hb11⟩, H⟩
  obtain ⟨r11s, hs11⟩ : ∃ sgn, sgn = decide (s < 0) := ⟨_, rfl⟩
  obtain ⟨q11s, ht11⟩ : ∃ sgn, sgn = decide (t < 0) := ⟨_, rfl⟩
  rw [← hs11, ← ht11]
  have hi := And.intro hv11 hs11
  have hj := And.intro hu11 ht11
  obtain ⟨r11t, r11a, r11n, rfl, rfl, -, -, -, -, -, -⟩ := hv11.form
  obtain ⟨q11t, q11a, q11n, rfl, rfl, -, -, -, -, -, -⟩ := hu11.form
  replace ST := Lib.hid (((H.call hb11).know hj).know hi)
  clear hi hj H hv11 hu11 hb11 hs11 ht11
  (first | clear q0 q1 q2 q3 q4 q5 q6 q7 q8 q9 q10 q11 | skip); obtain ⟨q0, q1, q2, q3, q4, q5, q6, q7, q8, q9, q10, q11⟩ := ST.out.rats (w.heap.size + 1 + 1, .int .u64 0, .slice none 0 0, false, .int .u64 0, .slice none 0 0, false) (by with_reducible ((repeat ((fail_if_success exact mem0); apply List.mem_cons_of_mem)); exact mem0)); dsimp only at q0 q1 q2 q3 q4 q5 q6 q7 q8 q9 q10 q11
  all_goals
    go_wp2
    exact bodyPost_ret (v := .agg #[.int .u64 r11t, .slice r11a r11n r11n, .bool r11s, .int .u64 q11t, .slice q11a q11n q11n, .bool q11s]) (by simp [results, Tryz.results105, go_sem, q0, q1, q2, q3, q4, q5]) rfl (ST.out.giveR (k := w.heap.size + 1 + 1) (by with_reducible ((repeat ((fail_if_success exact mem0); apply List.mem_cons_of_mem)); exact mem0)) (by omega) (by with_reducible ((repeat ((fail_if_success exact mem0); apply List.mem_cons_of_mem)); exact mem0)) (by with_reducible ((repeat ((fail_if_success exact mem0); apply List.mem_cons_of_mem)); exact mem0)))
theorem OpR2.minus {a b : Rat} (ha : Q9 9000 a) (hb : Q9 9000 b) : OpR2 97 a.num a.den b.num b.den (a - b).num (a - b).den := by
  intro p v i q u j p' v' i' q' u' j' W h1 h2 h3 h4
  rw [Rat.sub_eq_add_neg]
  exact minus_raw p v i q u j p' v' i' q' u' j' _ _ _ _ W h1 h2 h3 h4 _ _ _ _ (OpR1.neg b) (OpR2.plus ha ⟨by rw [Rat.neg_num, Int.natAbs_neg]; exact hb.1, by rw [Rat.neg_den]; exact hb.2⟩)
theorem half_num : ((1 : Rat) / 2).num = 1 ∧ ((1 : Rat) / 2).den = 2 := by
  rw [Rat.div_def, Rat.one_mul]
  obtain ⟨e1, e2⟩ := inv_pos_num 2 (show (0 : Int) < 2 by omega)
  refine ⟨e1, ?_⟩
  have : ((2 : Rat)⁻¹.den : Int) = 2 := e2
  omega
theorem Q9.plus {n : Nat} {a b : Rat} (ha : Q9 n a) (hb : Q9 n b) : Q9 (2 * n + 1) (a + b) := by
  obtain ⟨e1, e2⟩ := add_steps a b _ _ _ _ _ rfl rfl rfl rfl rfl
  have hg : (Int.gcd (a.den : Int) b.den : Int) ≠ 0 := by
    have h0 := a.den_nz
    have := Int.gcd_pos_of_ne_zero_left (b.den : Int) (show (a.den : Int) ≠ 0 by omega)
    omega
  have hc := nl_fdiv ha.2 hg
  have hd := nl_fdiv hb.2 hg
  have hh : (Int.gcd (a.num * (b.den : Int).fdiv (Int.gcd (a.den : Int) b.den : Int) + b.num * (a.den : Int).fdiv (Int.gcd (a.den : Int) b.den : Int)) (Int.gcd (a.den : Int) b.den : Int) : Int) ≠ 0 := by
    have := Int.gcd_pos_of_ne_zero_right (a.num * (b.den : Int).fdiv (Int.gcd (a.den : Int) b.den : Int) + b.num * (a.den : Int).fdiv (Int.gcd (a.den : Int) b.den : Int)) hg
    omega
  refine ⟨?_, ?_⟩
  · rw [← e1, show 2 * n + 1 = n + n + 1 by omega]
    exact nl_fdiv (nl_addZ (nl_mulZ ha.1 hd) (nl_mulZ hb.1 hc)) hh
  · rw [← e2]
    exact Nat.le_trans (nl_mulZ hc (nl_fdiv hb.2 hh)) (by omega)
theorem OpR2.middle {a b : Rat} (ha : Q9 4000 a) (hb : Q9 4000 b) : OpR2 105 a.num a.den b.num b.den ((a + b) / 2).num ((a + b) / 2).den := by
  intro p v i q u j p' v' i' q' u' j' W h1 h2 h3 h4
  rw [show (a + b) / 2 = (a + b) * (1 / 2) by rw [Rat.div_def, Rat.div_def, Rat.one_mul]]
  have C2 := OpR2.times (a := a + b) (b := 1 / 2) ((ha.plus hb).mono (by omega)) ⟨by rw [half_num.1]; exact Nat.le_trans (nl_small (by decide)) (by decide), by rw [half_num.2]; exact Nat.le_trans (nl_small (by decide)) (by decide)⟩
  rw [half_num.1, half_num.2] at C2
  exact middle_raw p v i q u j p' v' i' q' u' j' _ _ _ _ W h1 h2 h3 h4 _ _ _ _ (OpR2.plus (ha.mono (by omega)) (hb.mono (by omega))) C2

end Go.Proofs.YtkhebidmfjbhaaaGreatDoor
