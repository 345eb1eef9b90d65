/-
  What Compare of two rational numbers returns.
  What less returns.
  What ratio's operations answer, as rational numbers of Lean's core.
-/
import Derived.Test.YtkhebidmfjbhaaaGreatDoorZ18
import Derived.Deep.RegionHeld3
import Derived.Deep.Cut
import Derived.Test.YtkhebidmfjbhaaaGreatDoorZ03
import Derived.Test.YtkhebidmfjbhaaaGreatDoorZ20
import Derived.Test.YtkhebidmfjbhaaaGreatDoorZ21
import Derived.Test.YtkhebidmfjbhaaaGreatDoorZ22
namespace Go.Proofs.YtkhebidmfjbhaaaGreatDoor
open Go.RowKit

set_option maxHeartbeats 4000000 in
set_option maxRecDepth 100000 in
theorem rcmp_any (px vx : Value) (ix : Bool) (py vy : Value) (iy : Bool) (pz vz : Value) (iz : Bool) (pr vr : Value) (ir : Bool) (x y z r : Int) (w : World) (hx : IntV w px vx ix x) (hy : IntV w py vy iy y) (hz : IntV w pz vz iz z) (hr : IntV w pr vr ir r) (hx9 : nl x.natAbs ≤ 20000) (hy9 : nl y.natAbs ≤ 20000) (hz9 : nl z.natAbs ≤ 20000) (hr9 : nl r.natAbs ≤ 20000) :
    Calls Tryz.prog 86 #[.agg #[px, vx, .bool ix, py, vy, .bool iy], .agg #[pz, vz, .bool iz, pr, vr, .bool ir]] w (GivesI (cmp3 (x * r) (z * y)) w) := by
  obtain ⟨m, hm⟩ : ∃ m, x * r = m := ⟨_, rfl⟩
  obtain ⟨n, hn⟩ : ∃ n, z * y = n := ⟨_, rfl⟩
  have TX := Op2.times hm (by omega) (by omega)
  have TY := Op2.times hn (by omega) (by omega)
  rw [hm, hn]
  clear hm hn
  obtain ⟨xt, xa, xn, rfl, rfl, -, -, -, -, -, -⟩ := hx.1.form
  obtain ⟨xs, hxs⟩ : ∃ s, s = ix := ⟨_, rfl⟩; subst hxs
  obtain ⟨yt, ya, yn, rfl, rfl, -, -, -, -, -, -⟩ := hy.1.form
  obtain ⟨ys, hys⟩ : ∃ s, s = iy := ⟨_, rfl⟩; subst hys
  obtain ⟨zt, za, zn, rfl, rfl, -, -, -, -, -, -⟩ := hz.1.form
  obtain ⟨zs, hzs⟩ : ∃ s, s = iz := ⟨_, rfl⟩; subst hzs
  obtain ⟨rt, ra, rn, rfl, rfl, -, -, -, -, -, -⟩ := hr.1.form
  obtain ⟨rs, hrs⟩ : ∃ s, s = ir := ⟨_, rfl⟩; subst hrs
  obtain ⟨W0, hW0⟩ : ∃ W0, W0 = ((w.alloc (.cells #[.int .u64 xt, .slice xa xn xn, .bool xs, .int .u64 yt, .slice ya yn yn, .bool ys] 76)).alloc (.cells #[.int .u64 zt, .slice za zn zn, .bool zs, .int .u64 rt, .slice ra rn rn, .bool rs] 76)) := ⟨_, rfl⟩
  have ST : St w W0 [(w.heap.size + 1, .int .u64 zt, .slice za zn zn, zs, .int .u64 rt, .slice ra rn rn, rs), (w.heap.size, .int .u64 xt, .slice xa xn xn, xs, .int .u64 yt, .slice ya yn yn, ys)] [] [(.int .u64 rt, .slice ra rn rn, rs, r), (.int .u64 zt, .slice za zn zn, zs, z), (.int .u64 yt, .slice ya yn yn, ys, y), (.int .u64 xt, .slice xa xn xn, xs, x)] := by
    rw [hW0]
    exact ((((((St.zero).know hx).know hy).know hz).know hr).allocR (k := w.heap.size) (t := 76) (by first | rfl | (simp; done) | (simp; omega))).allocR (k := w.heap.size + 1) (t := 76) (by first | rfl | (simp; done) | (simp; omega))
  replace ST := Lib.hid ST
  clear hx hy hz hr hx9 hy9 hz9 hr9
  go_enter Tryz.func86, Tryz.ntmps86
  go_wp2_with fail
  rw [← hW0]
  clear hW0
  go_upto_region 1 with fail
  go_region_held3 (fun W => (W.cell? ⟨w.heap.size, 0, none⟩ = some (.int .u64 xt) ∧ W.cell? ⟨w.heap.size, 1, none⟩ = some (.slice xa xn xn) ∧ W.cell? ⟨w.heap.size, 2, none⟩ = some (.bool xs) ∧ W.cell? ⟨w.heap.size, 3, none⟩ = some (.int .u64 yt) ∧ W.cell? ⟨w.heap.size, 4, none⟩ = some (.slice ya yn yn) ∧ W.cell? ⟨w.heap.size, 5, none⟩ = some (.bool ys)) ∧ (W.cell? ⟨(w.heap.size + 1), 0, none⟩ = some (.int .u64 zt) ∧ W.cell? ⟨(w.heap.size + 1), 1, none⟩ = some (.slice za zn zn) ∧ W.cell? ⟨(w.heap.size + 1), 2, none⟩ = some (.bool zs) ∧ W.cell? ⟨(w.heap.size + 1), 3, none⟩ = some (.int .u64 rt) ∧ W.cell? ⟨(w.heap.size + 1), 4, none⟩ = some (.slice ra rn rn) ∧ W.cell? ⟨(w.heap.size + 1), 5, none⟩ = some (.bool rs))) ((exact ⟨St.rat (w := w) (by ((with_reducible iterate 4 try first | apply St.drew | apply St.alloc | apply St.allocR | apply St.putR); ((with_reducible exact ST.out); all_goals (first | rfl | (simp; done) | (simp; omega))))) (by with_reducible ((repeat ((fail_if_success exact mem0); apply List.mem_cons_of_mem)); exact mem0)), St.rat (w := w) (by ((with_reducible iterate 4 try first | apply St.drew | apply St.alloc | apply St.allocR | apply St.putR); ((with_reducible exact ST.out); all_goals (first | rfl | (simp; done) | (simp; omega))))) (by with_reducible ((repeat ((fail_if_success exact mem0); apply List.mem_cons_of_mem)); exact mem0))⟩)) (first | (go_at_call 134; refine St.arm (w := w) (by ((with_reducible iterate 4 try first | apply St.drew | apply St.alloc | apply St.allocR | apply St.putR); ((with_reducible exact ST.out); all_goals (first | rfl | (simp; done) | (simp; omega))))) (by intro H; with_reducible exact Op2.run TX (H.int (by with_reducible ((repeat ((fail_if_success exact mem0); apply List.mem_cons_of_mem)); exact mem0))) (H.int (by with_reducible ((repeat ((fail_if_success exact mem0); apply List.mem_cons_of_mem)); exact mem0)))) ?_; rintro e w1 ⟨⟨p1, v1, rfl, hv1, hb1⟩, H⟩; obtain ⟨r1s, hs1⟩ : ∃ s, s = decide (m < 0) := ⟨_, rfl⟩; rw [← hs1]; have hi := And.intro hv1 hs1; obtain ⟨r1t, r1a, r1n, rfl, rfl, -, -, -, -, -, -⟩ := hv1.form; replace ST := Lib.hid ((H.call hb1).know hi); clear hi H hv1 hb1 hs1) | (go_at_call 134; refine St.arm (w := w) (by ((with_reducible iterate 4 try first | apply St.drew | apply St.alloc | apply St.allocR | apply St.putR); ((with_reducible exact ST.out); all_goals (first | rfl | (simp; done) | (simp; omega))))) (by intro H; with_reducible exact Op2.run TY (H.int (by with_reducible ((repeat ((fail_if_success exact mem0); apply List.mem_cons_of_mem)); exact mem0))) (H.int (by with_reducible ((repeat ((fail_if_success exact mem0); apply List.mem_cons_of_mem)); exact mem0)))) ?_; rintro e w2 ⟨⟨p2, v2, rfl, hv2, hb2⟩, H⟩; obtain ⟨r2s, hs2⟩ : ∃ s, s = decide (n < 0) := ⟨_, rfl⟩; rw [← hs2]; have hi := And.intro hv2 hs2; obtain ⟨r2t, r2a, r2n, rfl, rfl, -, -, -, -, -, -⟩ := hv2.form; replace ST := Lib.hid ((H.call hb2).know hi); clear hi H hv2 hb2 hs2) | (go_at_call 145; refine St.arm (w := w) (by ((with_reducible iterate 4 try first | apply St.drew | apply St.alloc | apply St.allocR | apply St.putR); ((with_reducible exact ST.out); all_goals (first | rfl | (simp; done) | (simp; omega))))) (by intro H; with_reducible exact cmp_run (x := m) (y := n) (H.int (by with_reducible ((repeat ((fail_if_success exact mem0); apply List.mem_cons_of_mem)); exact mem0))) (H.int (by with_reducible ((repeat ((fail_if_success exact mem0); apply List.mem_cons_of_mem)); exact mem0)))) ?_; rintro e w3 ⟨⟨rfl, hb3⟩, H⟩; replace ST := Lib.hid (H.call hb3); clear H hb3) | fail)
  all_goals
    go_wp2
    exact bodyPost_ret (v := .int .i64 (cmp3 m n)) (by simp [results, Tryz.results86, go_sem]) rfl ⟨rfl, ST.out.below⟩
end Go.Proofs.YtkhebidmfjbhaaaGreatDoor
namespace Go.Proofs.YtkhebidmfjbhaaaGreatDoor
open Go.RowKit

/-- What Compare of two rational numbers answers, wherever they lie. -/
def OpC (x y z r t : Int) : Prop := ∀ (p v : Value) (b : Bool) (q u : Value) (c : Bool) (p' v' : Value) (b' : Bool) (q' u' : Value) (c' : Bool) (W : World), IntV W p v b x → IntV W q u c y → IntV W p' v' b' z → IntV W q' u' c' r → Calls Tryz.prog 86 #[.agg #[p, v, .bool b, q, u, .bool c], .agg #[p', v', .bool b', q', u', .bool c']] W (GivesI t W)
theorem cmpR_run {x y z r : Int} (hx9 : nl x.natAbs ≤ 20000) (hy9 : nl y.natAbs ≤ 20000) (hz9 : nl z.natAbs ≤ 20000) (hr9 : nl r.natAbs ≤ 20000) : OpC x y z r (cmp3 (x * r) (z * y)) := fun p v b q u c p' v' b' q' u' c' W h1 h2 h3 h4 => rcmp_any p v b q u c p' v' b' q' u' c' x y z r W h1 h2 h3 h4 hx9 hy9 hz9 hr9

/-- The call answers b. -/
def GivesBo (b : Bool) (w : World) (e : Ending) (w' : World) : Prop := e = .returned (.bool b) ∧ Below w.heap.size w w'

set_option maxHeartbeats 4000000 in
set_option maxRecDepth 100000 in
theorem lessN_any (px vx : Value) (ix : Bool) (py vy : Value) (iy : Bool) (x y : Int) (w : World) (hx : IntV w px vx ix x) (hy : IntV w py vy iy y)  :
    Calls Tryz.prog 140 #[.agg #[px, vx, .bool ix], .agg #[py, vy, .bool iy]] w (GivesBo (decide (x < y)) w) := by
  obtain ⟨xt, xa, xn, rfl, rfl, -, -, -, -, -, -⟩ := hx.1.form
  obtain ⟨xs, hxs⟩ : ∃ s, s = ix := ⟨_, rfl⟩; subst hxs
  obtain ⟨yt, ya, yn, rfl, rfl, -, -, -, -, -, -⟩ := hy.1.form
  obtain ⟨ys, hys⟩ : ∃ s, s = iy := ⟨_, rfl⟩; subst hys
  obtain ⟨W0, hW0⟩ : ∃ W0, W0 = ((w.alloc (.cells #[.int .u64 xt, .slice xa xn xn, .bool xs] 74)).alloc (.cells #[.int .u64 yt, .slice ya yn yn, .bool ys] 74)) := ⟨_, rfl⟩
  have ST : St w W0 [] [(w.heap.size + 1, .int .u64 yt, .slice ya yn yn, ys), (w.heap.size, .int .u64 xt, .slice xa xn xn, xs)] [(.int .u64 yt, .slice ya yn yn, ys, y), (.int .u64 xt, .slice xa xn xn, xs, x)] := by
    rw [hW0]
    exact ((((St.zero).know hx).know hy).alloc (k := w.heap.size) (t := 74) (by first | rfl | (simp; done) | (simp; omega))).alloc (k := w.heap.size + 1) (t := 74) (by first | rfl | (simp; done) | (simp; omega))
  replace ST := Lib.hid ST
  clear hx hy
  go_enter Tryz.func140, Tryz.ntmps140
  go_wp2_with fail
  rw [← hW0]
  clear hW0
  obtain ⟨c0, c1, c2⟩ := ST.out.num (k := w.heap.size) (by with_reducible ((repeat ((fail_if_success exact mem0); apply List.mem_cons_of_mem)); exact mem0))
  obtain ⟨c3, c4, c5⟩ := ST.out.num (k := w.heap.size + 1) (by with_reducible ((repeat ((fail_if_success exact mem0); apply List.mem_cons_of_mem)); exact mem0))
  go_wp2_with fail
  refine Calls.mono (cmp_run (x := x) (y := y) (ST.out.int (by with_reducible ((repeat ((fail_if_success exact mem0); apply List.mem_cons_of_mem)); exact mem0))) (ST.out.int (by with_reducible ((repeat ((fail_if_success exact mem0); apply List.mem_cons_of_mem)); exact mem0)))) ?_
  rintro e w1 ⟨rfl, hb1⟩
  replace ST := Lib.hid (ST.out.call hb1)
  go_wp2
  rw [show decide (cmp3 x y < 0) = decide (x < y) by rw [decide_eq_decide]; unfold cmp3; split <;> (try split) <;> omega]
  exact bodyPost_ret (v := .bool (decide (x < y))) (by simp [results, Tryz.results140, go_sem]) rfl ⟨rfl, ST.out.below⟩
set_option maxHeartbeats 4000000 in
set_option maxRecDepth 100000 in
theorem lessR_any (px vx : Value) (ix : Bool) (py vy : Value) (iy : Bool) (pz vz : Value) (iz : Bool) (pr vr : Value) (ir : Bool) (x y z r : Int) (w : World) (hx : IntV w px vx ix x) (hy : IntV w py vy iy y) (hz : IntV w pz vz iz z) (hr : IntV w pr vr ir r) (hx9 : nl x.natAbs ≤ 20000) (hy9 : nl y.natAbs ≤ 20000) (hz9 : nl z.natAbs ≤ 20000) (hr9 : nl r.natAbs ≤ 20000) :
    Calls Tryz.prog 87 #[.agg #[px, vx, .bool ix, py, vy, .bool iy], .agg #[pz, vz, .bool iz, pr, vr, .bool ir]] w (GivesBo (decide (x * r < z * y)) w) := by
  have CM := cmpR_run hx9 hy9 hz9 hr9
  obtain ⟨m, hm⟩ : ∃ m, x * r = m := ⟨_, rfl⟩
  obtain ⟨n, hn⟩ : ∃ n, z * y = n := ⟨_, rfl⟩
  rw [hm, hn] at CM
  rw [hm, hn]
  clear hm hn
  obtain ⟨xt, xa, xn, rfl, rfl, -, -, -, -, -, -⟩ := hx.1.form
  obtain ⟨xs, hxs⟩ : ∃ s, s = ix := ⟨_, rfl⟩; subst hxs
  obtain ⟨yt, ya, yn, rfl, rfl, -, -, -, -, -, -⟩ := hy.1.form
  obtain ⟨ys, hys⟩ : ∃ s, s = iy := ⟨_, rfl⟩; subst hys
  obtain ⟨zt, za, zn, rfl, rfl, -, -, -, -, -, -⟩ := hz.1.form
  obtain ⟨zs, hzs⟩ : ∃ s, s = iz := ⟨_, rfl⟩; subst hzs
  obtain ⟨rt, ra, rn, rfl, rfl, -, -, -, -, -, -⟩ := hr.1.form
  obtain ⟨rs, hrs⟩ : ∃ s, s = ir := ⟨_, rfl⟩; subst hrs
  obtain ⟨W0, hW0⟩ : ∃ W0, W0 = ((w.alloc (.cells #[.int .u64 xt, .slice xa xn xn, .bool xs, .int .u64 yt, .slice ya yn yn, .bool ys] 76)).alloc (.cells #[.int .u64 zt, .slice za zn zn, .bool zs, .int .u64 rt, .slice ra rn rn, .bool rs] 76)) := ⟨_, rfl⟩
  have ST : St w W0 [(w.heap.size + 1, .int .u64 zt, .slice za zn zn, zs, .int .u64 rt, .slice ra rn rn, rs), (w.heap.size, .int .u64 xt, .slice xa xn xn, xs, .int .u64 yt, .slice ya yn yn, ys)] [] [(.int .u64 rt, .slice ra rn rn, rs, r), (.int .u64 zt, .slice za zn zn, zs, z), (.int .u64 yt, .slice ya yn yn, ys, y), (.int .u64 xt, .slice xa xn xn, xs, x)] := by
    rw [hW0]
    exact ((((((St.zero).know hx).know hy).know hz).know hr).allocR (k := w.heap.size) (t := 76) (by first | rfl | (simp; done) | (simp; omega))).allocR (k := w.heap.size + 1) (t := 76) (by first | rfl | (simp; done) | (simp; omega))
  replace ST := Lib.hid ST
  clear hx hy hz hr hx9 hy9 hz9 hr9
  go_enter Tryz.func87, Tryz.ntmps87
  go_wp2_with fail
  rw [← hW0]
  clear hW0
  obtain ⟨c0, c1, c2, c3, c4, c5⟩ := ST.out.rat (k := w.heap.size) (by with_reducible ((repeat ((fail_if_success exact mem0); apply List.mem_cons_of_mem)); exact mem0))
  obtain ⟨d0, d1, d2, d3, d4, d5⟩ := ST.out.rat (k := w.heap.size + 1) (by with_reducible ((repeat ((fail_if_success exact mem0); apply List.mem_cons_of_mem)); exact mem0))
  go_wp2_with fail
  refine Calls.mono (CM _ _ _ _ _ _ _ _ _ _ _ _ _ (ST.out.int (by with_reducible ((repeat ((fail_if_success exact mem0); apply List.mem_cons_of_mem)); exact mem0))) (ST.out.int (by with_reducible ((repeat ((fail_if_success exact mem0); apply List.mem_cons_of_mem)); exact mem0))) (ST.out.int (by with_reducible ((repeat ((fail_if_success exact mem0); apply List.mem_cons_of_mem)); exact mem0))) (ST.out.int (by with_reducible ((repeat ((fail_if_success exact mem0); apply List.mem_cons_of_mem)); exact mem0)))) ?_
  rintro e w1 ⟨rfl, hb1⟩
  replace ST := Lib.hid (ST.out.call hb1)
  go_wp2
  rw [show decide (cmp3 m n < 0) = decide (m < n) by rw [decide_eq_decide]; unfold cmp3; split <;> (try split) <;> omega]
  exact bodyPost_ret (v := .bool (decide (m < n))) (by simp [results, Tryz.results87, go_sem]) rfl ⟨rfl, ST.out.below⟩
end Go.Proofs.YtkhebidmfjbhaaaGreatDoor
namespace Go.Proofs.YtkhebidmfjbhaaaGreatDoor
open Go.RowKit

/-- What a function of one rational number, of two, answers. -/
def OpR1 (f : Nat) (x y s t : Int) : Prop := ∀ (p v : Value) (b : Bool) (q u : Value) (c : Bool) (W : World), IntV W p v b x → IntV W q u c y → Calls Tryz.prog f #[.agg #[p, v, .bool b, q, u, .bool c]] W (GivesR s t W)
def OpR2 (f : Nat) (x y z r s t : Int) : Prop := ∀ (p v : Value) (b : Bool) (q u : Value) (c : Bool) (p' v' : Value) (b' : Bool) (q' u' : Value) (c' : Bool) (W : World), IntV W p v b x → IntV W q u c y → IntV W p' v' b' z → IntV W q' u' c' r → Calls Tryz.prog f #[.agg #[p, v, .bool b, q, u, .bool c], .agg #[p', v', .bool b', q', u', .bool c']] W (GivesR s t W)
theorem OpR1.run {f : Nat} {x y s t : Int} {p v q u : Value} {b c : Bool} {W : World} (h : OpR1 f x y s t) (hx : IntV W p v b x) (hy : IntV W q u c y) : Calls Tryz.prog f #[.agg #[p, v, .bool b, q, u, .bool c]] W (GivesR s t W) := h p v b q u c W hx hy
theorem OpR2.run {f : Nat} {x y z r s t : Int} {p v q u p' v' q' u' : Value} {b c b' c' : Bool} {W : World} (h : OpR2 f x y z r s t) (hx : IntV W p v b x) (hy : IntV W q u c y) (hz : IntV W p' v' b' z) (hr : IntV W q' u' c' r) : Calls Tryz.prog f #[.agg #[p, v, .bool b, q, u, .bool c], .agg #[p', v', .bool b', q', u', .bool c']] W (GivesR s t W) := h p v b q u c p' v' b' q' u' c' W hx hy hz hr
/-- A rational number with at most n limbs above and below. -/
def Q9 (n : Nat) (a : Rat) : Prop := nl a.num.natAbs ≤ n ∧ nl (a.den : Int).natAbs ≤ n
theorem Q9.mono {n m : Nat} {a : Rat} (h : Q9 n a) (hm : n ≤ m) : Q9 m a := ⟨Nat.le_trans h.1 hm, Nat.le_trans h.2 hm⟩
theorem OpR2.plus {a b : Rat} (ha : Q9 9000 a) (hb : Q9 9000 b) : OpR2 94 a.num a.den b.num b.den (a + b).num (a + b).den := by
  intro p v i q u j p' v' i' q' u' j' W h1 h2 h3 h4
  obtain ⟨e1, e2⟩ := add_steps a b _ _ _ _ _ rfl rfl rfl rfl rfl
  have := b.den_nz
  have h := rplus_raw p v i q u j p' v' i' q' u' j' a.num a.den b.num b.den W h1 h2 h3 h4 _ _ _ _ _ rfl rfl rfl rfl rfl (by omega) ha.1 ha.2 hb.1 hb.2
  rw [e1, e2] at h
  exact h
theorem OpR1.neg (a : Rat) : OpR1 126 a.num a.den (-a).num (-a).den := by
  intro p v i q u j W h1 h2
  have h := rnegative_any p v i q u j a.num a.den W h1 h2
  rw [Rat.neg_num, Rat.neg_den]
  exact h
/-- The quotient of two integers. -/
theorem quotient_any (p v : Value) (b : Bool) (q u : Value) (c : Bool) (x y : Int) (W : World) (hx : IntV W p v b x) (hy : IntV W q u c y) (h0 : y ≠ 0) (hx9 : nl x.natAbs ≤ 20000) (hy9 : nl y.natAbs ≤ 20000) :
    Calls Tryz.prog 116 #[.agg #[p, v, .bool b], .agg #[q, u, .bool c]] W (GivesR (Rat.divInt x y).num (Rat.divInt x y).den W) := by
  rcases Int.lt_or_gt_of_ne h0 with h | h
  · have e := quotient_neg p v b q u c x y W hx hy h hx9 hy9
    rw [(quo_neg x y h).1, (quo_neg x y h).2] at e
    exact e
  · have e := quotient_pos p v b q u c x y W hx hy h hx9 hy9
    rw [(quo_pos x y h).1, (quo_pos x y h).2] at e
    exact e
end Go.Proofs.YtkhebidmfjbhaaaGreatDoor
