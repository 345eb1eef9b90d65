/-
  What Cmp, Min and Max return.
  What Add, Sub, Mul, Mid and Div return.
  What Make returns.
-/
import Derived.Test.YtkhebidmfjbhaaaGreatDoorZ30
import Derived.Deep.RegionHeld3
import Derived.Deep.Cut
namespace Go.Proofs.YtkhebidmfjbhaaaGreatDoor
open Go.RowKit

theorem St.allocV {w W : World} {R : List (Nat × Value × Value × Bool × Value × Value × Bool)} {Z : List (Nat × Value × Value × Bool)} {N : List (Value × Value × Bool × Int)} (h : St w W R Z N) (p v : Value) (b : Bool) (q u : Value) (c : Bool) (t : TypeId) (k : Nat) (hk : k = W.heap.size) :
    St w (W.alloc (.cells #[p, v, .bool b, q, u, .bool c] t)) ((k, p, v, b, q, u, c) :: R) Z N := h.allocR hk
theorem St.allocN {w W : World} {R : List (Nat × Value × Value × Bool × Value × Value × Bool)} {Z : List (Nat × Value × Value × Bool)} {N : List (Value × Value × Bool × Int)} (h : St w W R Z N) (p v : Value) (b : Bool) (t : TypeId) (k : Nat) (hk : k = W.heap.size) :
    St w (W.alloc (.cells #[p, v, .bool b] t)) R ((k, p, v, b) :: Z) N := h.alloc hk
theorem OpC.run {x y z r t : Int} {p v q u p' v' q' u' : Value} {b c b' c' : Bool} {W : World} (h : OpC x y z r t) (hx : IntV W p v b x) (hy : IntV W q u c y) (hz : IntV W p' v' b' z) (hr : IntV W q' u' c' r) : Calls Tryz.prog 86 #[.agg #[p, v, .bool b, q, u, .bool c], .agg #[p', v', .bool b', q', u', .bool c']] W (GivesI t W) := h p v b q u c p' v' b' q' u' c' W hx hy hz hr
/-- What less of two rational numbers answers. -/
def OpL (x y z r : Int) (t : Bool) : Prop := ∀ (p v : Value) (b : Bool) (q u : Value) (c : Bool) (p' v' : Value) (b' : Bool) (q' u' : Value) (c' : Bool) (W : World), IntV W p v b x → IntV W q u c y → IntV W p' v' b' z → IntV W q' u' c' r → Calls Tryz.prog 87 #[.agg #[p, v, .bool b, q, u, .bool c], .agg #[p', v', .bool b', q', u', .bool c']] W (GivesBo t W)
theorem OpL.run {x y z r : Int} {t : Bool} {p v q u p' v' q' u' : Value} {b c b' c' : Bool} {W : World} (h : OpL x y z r t) (hx : IntV W p v b x) (hy : IntV W q u c y) (hz : IntV W p' v' b' z) (hr : IntV W q' u' c' r) : Calls Tryz.prog 87 #[.agg #[p, v, .bool b, q, u, .bool c], .agg #[p', v', .bool b', q', u', .bool c']] W (GivesBo t W) := h p v b q u c p' v' b' q' u' c' W hx hy hz hr
theorem lessR_run {x y z r : Int} (hx9 : nl x.natAbs ≤ 20000) (hy9 : nl y.natAbs ≤ 20000) (hz9 : nl z.natAbs ≤ 20000) (hr9 : nl r.natAbs ≤ 20000) : OpL x y z r (decide (x * r < z * y)) := fun p v b q u c p' v' b' q' u' c' W h1 h2 h3 h4 => lessR_any p v b q u c p' v' b' q' u' c' x y z r W h1 h2 h3 h4 hx9 hy9 hz9 hr9
/-- What both answers for two texts. -/
def BE (A B : ByteArray) (x y z r : Int) (ok : Bool) : Prop := ∀ W, Calls Tryz.prog 85 #[.string A, .string B, .func (.func 82) #[] #[]] W (GivesB2 x y z r ok W)
def BP (A B : ByteArray) (x y z r : Int) (ok : Bool) : Prop := ∀ W, Calls Tryz.prog 85 #[.string A, .string B, .func (.func 79) #[] #[]] W (GivesB2 x y z r ok W)
theorem BE.ok {A B : ByteArray} {x y z r : Int} (a : PE A x y true) (b : PE B z r true) : BE A B x y z r true := fun W => both_okE A B x y z r W a b
theorem BP.ok {A B : ByteArray} {x y z r : Int} (a : PR A x y true) (b : PR B z r true) : BP A B x y z r true := fun W => both_ok A B x y z r W a b
set_option maxHeartbeats 4000000 in
set_option maxRecDepth 100000 in
theorem Cmp_of (A B : ByteArray) (x y z r : Int) (w : World) (t : Int) (CB : BE A B x y z r true) (CC : OpC x y z r t) : Calls Tryz.prog 25 #[.string A, .string B] w (GivesI t w) := by
  replace CB := Lib.hid CB
  replace CC := Lib.hid CC
  go_enter Tryz.func25, Tryz.ntmps25
  have ST : St w w [] [] [] := St.zero
  replace ST := Lib.hid ST
  go_wp2_with fail
  refine Calls.mono (CB.out _) ?_
  rintro e w1 ⟨px, vx, py, vy, pz, vz, pr, vr, rfl, nx, ny, nz, nr, hb1⟩
  obtain ⟨kxs, hxs⟩ : ∃ sgn, sgn = decide (x < 0) := ⟨_, rfl⟩
  rw [← hxs]
  have ix := And.intro nx hxs
  obtain ⟨kxt, kxa, kxn, rfl, rfl, -, -, -, -, -, -⟩ := nx.form
  obtain ⟨kys, hys⟩ : ∃ sgn, sgn = decide (y < 0) := ⟨_, rfl⟩
  rw [← hys]
  have iy := And.intro ny hys
  obtain ⟨kyt, kya, kyn, rfl, rfl, -, -, -, -, -, -⟩ := ny.form
  obtain ⟨kzs, hzs⟩ : ∃ sgn, sgn = decide (z < 0) := ⟨_, rfl⟩
  rw [← hzs]
  have iz := And.intro nz hzs
  obtain ⟨kzt, kza, kzn, rfl, rfl, -, -, -, -, -, -⟩ := nz.form
  obtain ⟨krs, hrs⟩ : ∃ sgn, sgn = decide (r < 0) := ⟨_, rfl⟩
  rw [← hrs]
  have ir := And.intro nr hrs
  obtain ⟨krt, kra, krn, rfl, rfl, -, -, -, -, -, -⟩ := nr.form
  replace ST := Lib.hid (((((ST.out.call hb1).know ix).know iy).know iz).know ir)
  clear ix iy iz ir nx ny nz nr hxs hys hzs hrs hb1
  go_upto_region 2 with fail
  obtain ⟨W1, hW⟩ : ∃ W, W = (w1.alloc (.cells #[.int .u64 kxt, .slice kxa kxn kxn, .bool kxs, .int .u64 kyt, .slice kya kyn kyn, .bool kys] 76)).alloc (.cells #[.int .u64 kzt, .slice kza kzn kzn, .bool kzs, .int .u64 krt, .slice kra krn krn, .bool krs] 76) := ⟨_, rfl⟩
  rw [← hW]
  replace ST := (ST.out.allocV (.int .u64 kxt) (.slice kxa kxn kxn) kxs (.int .u64 kyt) (.slice kya kyn kyn) kys 76 w1.heap.size rfl).allocV (.int .u64 kzt) (.slice kza kzn kzn) kzs (.int .u64 krt) (.slice kra krn krn) krs 76 (w1.heap.size + 1) (by first | rfl | (simp; done) | (simp; omega))
  rw [← hW] at ST
  clear hW
  replace ST := Lib.hid ST
  obtain ⟨k1, hk⟩ : ∃ k, k = w1.heap.size := ⟨_, rfl⟩
  rw [← hk] at ST ⊢
  clear hk
  obtain ⟨c0, c1, c2, c3, c4, c5⟩ := ST.out.rat (k := k1) (by with_reducible ((repeat ((fail_if_success exact mem0); apply List.mem_cons_of_mem)); exact mem0))
  obtain ⟨d0, d1, d2, d3, d4, d5⟩ := ST.out.rat (k := k1 + 1) (by with_reducible ((repeat ((fail_if_success exact mem0); apply List.mem_cons_of_mem)); exact mem0))
  go_wp2_with fail
  refine St.arm (w := w) (by exact ST.out) (by intro H; with_reducible exact CC.out.run (H.int (by with_reducible ((repeat ((fail_if_success exact mem0); apply List.mem_cons_of_mem)); exact mem0))) (H.int (by with_reducible ((repeat ((fail_if_success exact mem0); apply List.mem_cons_of_mem)); exact mem0))) (H.int (by with_reducible ((repeat ((fail_if_success exact mem0); apply List.mem_cons_of_mem)); exact mem0))) (H.int (by with_reducible ((repeat ((fail_if_success exact mem0); apply List.mem_cons_of_mem)); exact mem0)))) ?_
  rintro e w2 ⟨⟨rfl, hb2⟩, H⟩
  replace ST := Lib.hid (H.call hb2)
  clear hb2 H c0 c1 c2 c3 c4 c5 d0 d1 d2 d3 d4 d5
  go_wp2
  go_ret
  exact ⟨rfl, ST.out.below⟩
set_option maxHeartbeats 4000000 in
set_option maxRecDepth 100000 in
theorem Min_true (A B : ByteArray) (x y z r : Int) (w : World) (CB : BE A B x y z r true) (CC : OpL z r x y true) : Calls Tryz.prog 27 #[.string A, .string B] w (GivesY B w) := by
  replace CB := Lib.hid CB
  replace CC := Lib.hid CC
  go_enter Tryz.func27, Tryz.ntmps27
  have ST : St w w [] [] [] := St.zero
  replace ST := Lib.hid ST
  go_wp2_with fail
  refine Calls.mono (CB.out _) ?_
  rintro e w1 ⟨px, vx, py, vy, pz, vz, pr, vr, rfl, nx, ny, nz, nr, hb1⟩
  obtain ⟨kxs, hxs⟩ : ∃ sgn, sgn = decide (x < 0) := ⟨_, rfl⟩
  rw [← hxs]
  have ix := And.intro nx hxs
  obtain ⟨kxt, kxa, kxn, rfl, rfl, -, -, -, -, -, -⟩ := nx.form
  obtain ⟨kys, hys⟩ : ∃ sgn, sgn = decide (y < 0) := ⟨_, rfl⟩
  rw [← hys]
  have iy := And.intro ny hys
  obtain ⟨kyt, kya, kyn, rfl, rfl, -, -, -, -, -, -⟩ := ny.form
  obtain ⟨kzs, hzs⟩ : ∃ sgn, sgn = decide (z < 0) := ⟨_, rfl⟩
  rw [← hzs]
  have iz := And.intro nz hzs
  obtain ⟨kzt, kza, kzn, rfl, rfl, -, -, -, -, -, -⟩ := nz.form
  obtain ⟨krs, hrs⟩ : ∃ sgn, sgn = decide (r < 0) := ⟨_, rfl⟩
  rw [← hrs]
  have ir := And.intro nr hrs
  obtain ⟨krt, kra, krn, rfl, rfl, -, -, -, -, -, -⟩ := nr.form
  replace ST := Lib.hid (((((ST.out.call hb1).know ix).know iy).know iz).know ir)
  clear ix iy iz ir nx ny nz nr hxs hys hzs hrs hb1
  go_upto_region 2 with fail
  obtain ⟨W1, hW⟩ : ∃ W, W = (w1.alloc (.cells #[.int .u64 kxt, .slice kxa kxn kxn, .bool kxs, .int .u64 kyt, .slice kya kyn kyn, .bool kys] 76)).alloc (.cells #[.int .u64 kzt, .slice kza kzn kzn, .bool kzs, .int .u64 krt, .slice kra krn krn, .bool krs] 76) := ⟨_, rfl⟩
  rw [← hW]
  replace ST := (ST.out.allocV (.int .u64 kxt) (.slice kxa kxn kxn) kxs (.int .u64 kyt) (.slice kya kyn kyn) kys 76 w1.heap.size rfl).allocV (.int .u64 kzt) (.slice kza kzn kzn) kzs (.int .u64 krt) (.slice kra krn krn) krs 76 (w1.heap.size + 1) (by first | rfl | (simp; done) | (simp; omega))
  rw [← hW] at ST
  clear hW
  replace ST := Lib.hid ST
  obtain ⟨k1, hk⟩ : ∃ k, k = w1.heap.size := ⟨_, rfl⟩
  rw [← hk] at ST ⊢
  clear hk
  obtain ⟨c0, c1, c2, c3, c4, c5⟩ := ST.out.rat (k := k1) (by with_reducible ((repeat ((fail_if_success exact mem0); apply List.mem_cons_of_mem)); exact mem0))
  obtain ⟨d0, d1, d2, d3, d4, d5⟩ := ST.out.rat (k := k1 + 1) (by with_reducible ((repeat ((fail_if_success exact mem0); apply List.mem_cons_of_mem)); exact mem0))
  go_wp2_with fail
  refine St.arm (w := w) (by exact ST.out) (by intro H; with_reducible exact CC.out.run (H.int (by with_reducible ((repeat ((fail_if_success exact mem0); apply List.mem_cons_of_mem)); exact mem0))) (H.int (by with_reducible ((repeat ((fail_if_success exact mem0); apply List.mem_cons_of_mem)); exact mem0))) (H.int (by with_reducible ((repeat ((fail_if_success exact mem0); apply List.mem_cons_of_mem)); exact mem0))) (H.int (by with_reducible ((repeat ((fail_if_success exact mem0); apply List.mem_cons_of_mem)); exact mem0)))) ?_
  rintro e w2 ⟨⟨rfl, hb2⟩, H⟩
  replace ST := Lib.hid (H.call hb2)
  clear hb2 H c0 c1 c2 c3 c4 c5 d0 d1 d2 d3 d4 d5
  go_wp2
  go_ret
  exact ⟨rfl, ST.out.below⟩
set_option maxHeartbeats 4000000 in
set_option maxRecDepth 100000 in
theorem Min_false (A B : ByteArray) (x y z r : Int) (w : World) (CB : BE A B x y z r true) (CC : OpL z r x y false) : Calls Tryz.prog 27 #[.string A, .string B] w (GivesY A w) := by
  replace CB := Lib.hid CB
  replace CC := Lib.hid CC
  go_enter Tryz.func27, Tryz.ntmps27
  have ST : St w w [] [] [] := St.zero
  replace ST := Lib.hid ST
  go_wp2_with fail
  refine Calls.mono (CB.out _) ?_
  rintro e w1 ⟨px, vx, py, vy, pz, vz, pr, vr, rfl, nx, ny, nz, nr, hb1⟩
  obtain ⟨kxs, hxs⟩ : ∃ sgn, sgn = decide (x < 0) := ⟨_, rfl⟩
  rw [← hxs]
  have ix := And.intro nx hxs
  obtain ⟨kxt, kxa, kxn, rfl, rfl, -, -, -, -, -, -⟩ := nx.form
  obtain ⟨kys, hys⟩ : ∃ sgn, sgn = decide (y < 0) := ⟨_, rfl⟩
  rw [← hys]
  have iy := And.intro ny hys
  obtain ⟨kyt, kya, kyn, rfl, rfl, -, -, -, -, -, -⟩ := ny.form
  obtain ⟨kzs, hzs⟩ : ∃ sgn, sgn = decide (z < 0) := ⟨_, rfl⟩
  rw [← hzs]
  have iz := And.intro nz hzs
  obtain ⟨kzt, kza, kzn, rfl, rfl, -, -, -, -, -, -⟩ := nz.form
  obtain ⟨krs, hrs⟩ : ∃ sgn, sgn = decide (r < 0) := ⟨_, rfl⟩
  rw [← hrs]
  have ir := And.intro nr hrs
  obtain ⟨krt, kra, krn, rfl, rfl, -, -, -, -, -, -⟩ := nr.form
  replace ST := Lib.hid (((((ST.out.call hb1).know ix).know iy).know iz).know ir)
  clear ix iy iz ir nx ny nz nr hxs hys hzs hrs hb1
  go_upto_region 2 with fail
  obtain ⟨W1, hW⟩ : ∃ W, W = (w1.alloc (.cells #[.int .u64 kxt, .slice kxa kxn kxn, .bool kxs, .int .u64 kyt, .slice kya kyn kyn, .bool kys] 76)).alloc (.cells #[.int .u64 kzt, .slice kza kzn kzn, .bool kzs, .int .u64 krt, .slice kra krn krn, .bool krs] 76) := ⟨_, rfl⟩
  rw [← hW]
  replace ST := (ST.out.allocV (.int .u64 kxt) (.slice kxa kxn kxn) kxs (.int .u64 kyt) (.slice kya kyn kyn) kys 76 w1.heap.size rfl).allocV (.int .u64 kzt) (.slice kza kzn kzn) kzs (.int .u64 krt) (.slice kra krn krn) krs 76 (w1.heap.size + 1) (by first | rfl | (simp; done) | (simp; omega))
  rw [← hW] at ST
  clear hW
  replace ST := Lib.hid ST
  obtain ⟨k1, hk⟩ : ∃ k, k = w1.heap.size := ⟨_, rfl⟩
  rw [← hk] at ST ⊢
  clear hk
  obtain ⟨c0, c1, c2, c3, c4, c5⟩ := ST.out.rat (k := k1) (by with_reducible ((repeat ((fail_if_success exact mem0); apply List.mem_cons_of_mem)); exact mem0))
  obtain ⟨d0, d1, d2, d3, d4, d5⟩ := ST.out.rat (k := k1 + 1) (by with_reducible ((repeat ((fail_if_success exact mem0); apply List.mem_cons_of_mem)); exact mem0))
  go_wp2_with fail
  refine St.arm (w := w) (by exact ST.out) (by intro H; with_reducible exact CC.out.run (H.int (by with_reducible ((repeat ((fail_if_success exact mem0); apply List.mem_cons_of_mem)); exact mem0))) (H.int (by with_reducible ((repeat ((fail_if_success exact mem0); apply List.mem_cons_of_mem)); exact mem0))) (H.int (by with_reducible ((repeat ((fail_if_success exact mem0); apply List.mem_cons_of_mem)); exact mem0))) (H.int (by with_reducible ((repeat ((fail_if_success exact mem0); apply List.mem_cons_of_mem)); exact mem0)))) ?_
  rintro e w2 ⟨⟨rfl, hb2⟩, H⟩
  replace ST := Lib.hid (H.call hb2)
  clear hb2 H c0 c1 c2 c3 c4 c5 d0 d1 d2 d3 d4 d5
  go_wp2
  go_ret
  exact ⟨rfl, ST.out.below⟩
set_option maxHeartbeats 4000000 in
set_option maxRecDepth 100000 in
theorem Max_true (A B : ByteArray) (x y z r : Int) (w : World) (CB : BE A B x y z r true) (CC : OpL x y z r true) : Calls Tryz.prog 29 #[.string A, .string B] w (GivesY B w) := by
  replace CB := Lib.hid CB
  replace CC := Lib.hid CC
  go_enter Tryz.func29, Tryz.ntmps29
  have ST : St w w [] [] [] := St.zero
  replace ST := Lib.hid ST
  go_wp2_with fail
  refine Calls.mono (CB.out _) ?_
  rintro e w1 ⟨px, vx, py, vy, pz, vz, pr, vr, rfl, nx, ny, nz, nr, hb1⟩
  obtain ⟨kxs, hxs⟩ : ∃ sgn, sgn = decide (x < 0) := ⟨_, rfl⟩
  rw [← hxs]
  have ix := And.intro nx hxs
  obtain ⟨kxt, kxa, kxn, rfl, rfl, -, -, -, -, -, -⟩ := nx.form
  obtain ⟨kys, hys⟩ : ∃ sgn, sgn = decide (y < 0) := ⟨_, rfl⟩
  rw [← hys]
  have iy := And.intro ny hys
  obtain ⟨kyt, kya, kyn, rfl, rfl, -, -, -, -, -, -⟩ := ny.form
  obtain ⟨kzs, hzs⟩ : ∃ sgn, sgn = decide (z < 0) := ⟨_, rfl⟩
  rw [← hzs]
  have iz := And.intro nz hzs
  obtain ⟨kzt, kza, kzn, rfl, rfl, -, -, -, -, -, -⟩ := nz.form
  obtain ⟨krs, hrs⟩ : ∃ sgn, sgn = decide (r < 0) := ⟨_, rfl⟩
  rw [← hrs]
  have ir := And.intro nr hrs
  obtain ⟨krt, kra, krn, rfl, rfl, -, -, -, -, -, -⟩ := nr.form
  replace ST := Lib.hid (((((ST.out.call hb1).know ix).know iy).know iz).know ir)
  clear ix iy iz ir nx ny nz nr hxs hys hzs hrs hb1
  go_upto_region 2 with fail
  obtain ⟨W1, hW⟩ : ∃ W, W = (w1.alloc (.cells #[.int .u64 kxt, .slice kxa kxn kxn, .bool kxs, .int .u64 kyt, .slice kya kyn kyn, .bool kys] 76)).alloc (.cells #[.int .u64 kzt, .slice kza kzn kzn, .bool kzs, .int .u64 krt, .slice kra krn krn, .bool krs] 76) := ⟨_, rfl⟩
  rw [← hW]
  replace ST := (ST.out.allocV (.int .u64 kxt) (.slice kxa kxn kxn) kxs (.int .u64 kyt) (.slice kya kyn kyn) kys 76 w1.heap.size rfl).allocV (.int .u64 kzt) (.slice kza kzn kzn) kzs (.int .u64 krt) (.slice kra krn krn) krs 76 (w1.heap.size + 1) (by first | rfl | (simp; done) | (simp; omega))
  rw [← hW] at ST
  clear hW
  replace ST := Lib.hid ST
  obtain ⟨k1, hk⟩ : ∃ k, k = w1.heap.size := ⟨_, rfl⟩
  rw [← hk] at ST ⊢
  clear hk
  obtain ⟨c0, c1, c2, c3, c4, c5⟩ := ST.out.rat (k := k1) (by with_reducible ((repeat ((fail_if_success exact mem0); apply List.mem_cons_of_mem)); exact mem0))
  obtain ⟨d0, d1, d2, d3, d4, d5⟩ := ST.out.rat (k := k1 + 1) (by with_reducible ((repeat ((fail_if_success exact mem0); apply List.mem_cons_of_mem)); exact mem0))
  go_wp2_with fail
  refine St.arm (w := w) (by exact ST.out) (by intro H; with_reducible exact CC.out.run (H.int (by with_reducible ((repeat ((fail_if_success exact mem0); apply List.mem_cons_of_mem)); exact mem0))) (H.int (by with_reducible ((repeat ((fail_if_success exact mem0); apply List.mem_cons_of_mem)); exact mem0))) (H.int (by with_reducible ((repeat ((fail_if_success exact mem0); apply List.mem_cons_of_mem)); exact mem0))) (H.int (by with_reducible ((repeat ((fail_if_success exact mem0); apply List.mem_cons_of_mem)); exact mem0)))) ?_
  rintro e w2 ⟨⟨rfl, hb2⟩, H⟩
  replace ST := Lib.hid (H.call hb2)
  clear hb2 H c0 c1 c2 c3 c4 c5 d0 d1 d2 d3 d4 d5
  go_wp2
  go_ret
  exact ⟨rfl, ST.out.below⟩
set_option maxHeartbeats 4000000 in
set_option maxRecDepth 100000 in
theorem Max_false (A B : ByteArray) (x y z r : Int) (w : World) (CB : BE A B x y z r true) (CC : OpL x y z r false) : Calls Tryz.prog 29 #[.string A, .string B] w (GivesY A w) := by
  replace CB := Lib.hid CB
  replace CC := Lib.hid CC
  go_enter Tryz.func29, Tryz.ntmps29
  have ST : St w w [] [] [] := St.zero
  replace ST := Lib.hid ST
  go_wp2_with fail
  refine Calls.mono (CB.out _) ?_
  rintro e w1 ⟨px, vx, py, vy, pz, vz, pr, vr, rfl, nx, ny, nz, nr, hb1⟩
  obtain ⟨kxs, hxs⟩ : ∃ sgn, sgn = decide (x < 0) := ⟨_, rfl⟩
  rw [← hxs]
  have ix := And.intro nx hxs
  obtain ⟨kxt, kxa, kxn, rfl, rfl, -, -, -, -, -, -⟩ := nx.form
  obtain ⟨kys, hys⟩ : ∃ sgn, sgn = decide (y < 0) := ⟨_, rfl⟩
  rw [← hys]
  have iy := And.intro ny hys
  obtain ⟨kyt, kya, kyn, rfl, rfl, -, -, -, -, -, -⟩ := ny.form
  obtain ⟨kzs, hzs⟩ : ∃ sgn, sgn = decide (z < 0) := ⟨_, rfl⟩
  rw [← hzs]
  have iz := And.intro nz hzs
  obtain ⟨kzt, kza, kzn, rfl, rfl, -, -, -, -, -, -⟩ := nz.form
  obtain ⟨krs, hrs⟩ : ∃ sgn, sgn = decide (r < 0) := ⟨_, rfl⟩
  rw [← hrs]
  have ir := And.intro nr hrs
  obtain ⟨krt, kra, krn, rfl, rfl, -, -, -, -, -, -⟩ := nr.form
  replace ST := Lib.hid (((((ST.out.call hb1).know ix).know iy).know iz).know ir)
  clear ix iy iz ir nx ny nz nr hxs hys hzs hrs hb1
  go_upto_region 2 with fail
  obtain ⟨W1, hW⟩ : ∃ W, W = (w1.alloc (.cells #[.int .u64 kxt, .slice kxa kxn kxn, .bool kxs, .int .u64 kyt, .slice kya kyn kyn, .bool kys] 76)).alloc (.cells #[.int .u64 kzt, .slice kza kzn kzn, .bool kzs, .int .u64 krt, .slice kra krn krn, .bool krs] 76) := ⟨_, rfl⟩
  rw [← hW]
  replace ST := (ST.out.allocV (.int .u64 kxt) (.slice kxa kxn kxn) kxs (.int .u64 kyt) (.slice kya kyn kyn) kys 76 w1.heap.size rfl).allocV (.int .u64 kzt) (.slice kza kzn kzn) kzs (.int .u64 krt) (.slice kra krn krn) krs 76 (w1.heap.size + 1) (by first | rfl | (simp; done) | (simp; omega))
  rw [← hW] at ST
  clear hW
  replace ST := Lib.hid ST
  obtain ⟨k1, hk⟩ : ∃ k, k = w1.heap.size := ⟨_, rfl⟩
  rw [← hk] at ST ⊢
  clear hk
  obtain ⟨c0, c1, c2, c3, c4, c5⟩ := ST.out.rat (k := k1) (by with_reducible ((repeat ((fail_if_success exact mem0); apply List.mem_cons_of_mem)); exact mem0))
  obtain ⟨d0, d1, d2, d3, d4, d5⟩ := ST.out.rat (k := k1 + 1) (by with_reducible ((repeat ((fail_if_success exact mem0); apply List.mem_cons_of_mem)); exact mem0))
  go_wp2_with fail
  refine St.arm (w := w) (by exact ST.out) (by intro H; with_reducible exact CC.out.run (H.int (by with_reducible ((repeat ((fail_if_success exact mem0); apply List.mem_cons_of_mem)); exact mem0))) (H.int (by with_reducible ((repeat ((fail_if_success exact mem0); apply List.mem_cons_of_mem)); exact mem0))) (H.int (by with_reducible ((repeat ((fail_if_success exact mem0); apply List.mem_cons_of_mem)); exact mem0))) (H.int (by with_reducible ((repeat ((fail_if_success exact mem0); apply List.mem_cons_of_mem)); exact mem0)))) ?_
  rintro e w2 ⟨⟨rfl, hb2⟩, H⟩
  replace ST := Lib.hid (H.call hb2)
  clear hb2 H c0 c1 c2 c3 c4 c5 d0 d1 d2 d3 d4 d5
  go_wp2
  go_ret
  exact ⟨rfl, ST.out.below⟩
end Go.Proofs.YtkhebidmfjbhaaaGreatDoor
namespace Go.Proofs.YtkhebidmfjbhaaaGreatDoor
open Go.RowKit

set_option maxHeartbeats 4000000 in
set_option maxRecDepth 100000 in
theorem combine_plus (A B : ByteArray) (x y z r : Int) (w : World) (Q : Rat) (tb : Tb w) (CB : BP A B x y z r true) (CC : OpR2 94 x y z r Q.num Q.den) : Calls Tryz.prog 93 #[.string A, .string B, .func (.func 94) #[] #[]] w (GivesQx Q w) := by
  replace CB := Lib.hid CB
  replace CC := Lib.hid CC
  have TB := Lib.hid tb
  clear tb
  go_enter Tryz.func93, Tryz.ntmps93
  have ST : St w w [] [] [] := St.zero
  replace ST := Lib.hid ST
  go_wp2_with fail
  refine Calls.mono (CB.out _) ?_
  rintro e w1 ⟨px, vx, py, vy, pz, vz, pr, vr, rfl, nx, ny, nz, nr, hb1⟩
  obtain ⟨kxs, hxs⟩ : ∃ sgn, sgn = decide (x < 0) := ⟨_, rfl⟩
  rw [← hxs]
  have ix := And.intro nx hxs
  obtain ⟨kxt, kxa, kxn, rfl, rfl, -, -, -, -, -, -⟩ := nx.form
  obtain ⟨kys, hys⟩ : ∃ sgn, sgn = decide (y < 0) := ⟨_, rfl⟩
  rw [← hys]
  have iy := And.intro ny hys
  obtain ⟨kyt, kya, kyn, rfl, rfl, -, -, -, -, -, -⟩ := ny.form
  obtain ⟨kzs, hzs⟩ : ∃ sgn, sgn = decide (z < 0) := ⟨_, rfl⟩
  rw [← hzs]
  have iz := And.intro nz hzs
  obtain ⟨kzt, kza, kzn, rfl, rfl, -, -, -, -, -, -⟩ := nz.form
  obtain ⟨krs, hrs⟩ : ∃ sgn, sgn = decide (r < 0) := ⟨_, rfl⟩
  rw [← hrs]
  have ir := And.intro nr hrs
  obtain ⟨krt, kra, krn, rfl, rfl, -, -, -, -, -, -⟩ := nr.form
  replace ST := Lib.hid (((((ST.out.call hb1).know ix).know iy).know iz).know ir)
  clear ix iy iz ir nx ny nz nr hxs hys hzs hrs hb1
  go_upto_region 2 with fail
  obtain ⟨W1, hW⟩ : ∃ W, W = (w1.alloc (.cells #[.int .u64 kxt, .slice kxa kxn kxn, .bool kxs, .int .u64 kyt, .slice kya kyn kyn, .bool kys] 76)).alloc (.cells #[.int .u64 kzt, .slice kza kzn kzn, .bool kzs, .int .u64 krt, .slice kra krn krn, .bool krs] 76) := ⟨_, rfl⟩
  rw [← hW]
  replace ST := (ST.out.allocV (.int .u64 kxt) (.slice kxa kxn kxn) kxs (.int .u64 kyt) (.slice kya kyn kyn) kys 76 w1.heap.size rfl).allocV (.int .u64 kzt) (.slice kza kzn kzn) kzs (.int .u64 krt) (.slice kra krn krn) krs 76 (w1.heap.size + 1) (by first | rfl | (simp; done) | (simp; omega))
  rw [← hW] at ST
  clear hW
  replace ST := Lib.hid ST
  obtain ⟨k1, hk⟩ : ∃ k, k = w1.heap.size := ⟨_, rfl⟩
  rw [← hk] at ST ⊢
  clear hk
  obtain ⟨c0, c1, c2, c3, c4, c5⟩ := ST.out.rat (k := k1) (by with_reducible ((repeat ((fail_if_success exact mem0); apply List.mem_cons_of_mem)); exact mem0))
  obtain ⟨d0, d1, d2, d3, d4, d5⟩ := ST.out.rat (k := k1 + 1) (by with_reducible ((repeat ((fail_if_success exact mem0); apply List.mem_cons_of_mem)); exact mem0))
  go_wp2_with fail
  refine St.arm (w := w) (by exact ST.out) (by intro H; with_reducible exact CC.out.run (H.int (by with_reducible ((repeat ((fail_if_success exact mem0); apply List.mem_cons_of_mem)); exact mem0))) (H.int (by with_reducible ((repeat ((fail_if_success exact mem0); apply List.mem_cons_of_mem)); exact mem0))) (H.int (by with_reducible ((repeat ((fail_if_success exact mem0); apply List.mem_cons_of_mem)); exact mem0))) (H.int (by with_reducible ((repeat ((fail_if_success exact mem0); apply List.mem_cons_of_mem)); exact mem0)))) ?_
  rintro e w4 ⟨⟨p4, v4, o4, u4, rfl, hv4, hu4, hb4⟩, H⟩
  obtain ⟨r4s, hs4⟩ : ∃ sgn, sgn = decide (Q.num < 0) := ⟨_, rfl⟩
  obtain ⟨q4s, ht4⟩ : ∃ sgn, sgn = decide ((Q.den : Int) < 0) := ⟨_, rfl⟩
  rw [← hs4, ← ht4]
  have hi := And.intro hv4 hs4
  have hj := And.intro hu4 ht4
  obtain ⟨r4t, r4a, r4n, rfl, rfl, -, -, -, -, -, -⟩ := hv4.form
  obtain ⟨q4t, q4a, q4n, rfl, rfl, -, -, -, -, -, -⟩ := hu4.form
  replace ST := Lib.hid (((H.call hb4).know hj).know hi)
  clear hi hj hv4 hu4 hb4 hs4 ht4
  clear H c0 c1 c2 c3 c4 c5 d0 d1 d2 d3 d4 d5
  go_wp2_with fail
  refine Calls.mono (ratext_any _ _ _ _ _ _ Q _ (TB.out.below ST.out.below) (ST.out.int (by with_reducible ((repeat ((fail_if_success exact mem0); apply List.mem_cons_of_mem)); exact mem0))) (ST.out.int (by with_reducible ((repeat ((fail_if_success exact mem0); apply List.mem_cons_of_mem)); exact mem0)))) ?_
  rintro e w5 ⟨rfl, hb5⟩
  obtain ⟨T, hT⟩ : ∃ T, T = (if dn Q.num ≤ 1000 ∧ dn Q.den ≤ 1000 then qx Q else ⟨#[]⟩) := ⟨_, rfl⟩
  obtain ⟨E, hE⟩ : ∃ E : Int, E = (if dn Q.num ≤ 1000 ∧ dn Q.den ≤ 1000 then 0 else 3) := ⟨_, rfl⟩
  rw [← hT, ← hE]
  have HT := Lib.hid hT
  have HE := Lib.hid hE
  replace ST := Lib.hid (ST.out.call hb5)
  clear hT hE hb5
  go_wp2
  go_ret2
  exact ⟨by rw [← HT.out, ← HE.out]; rfl, ST.out.below⟩
theorem Add_of (A B : ByteArray) (x y z r : Int) (w : World) (Q : Rat) (tb : Tb w) (CB : BP A B x y z r true) (CC : OpR2 94 x y z r Q.num Q.den) : Calls Tryz.prog 37 #[.string A, .string B] w (GivesQx Q w) := by
  have CO := Lib.hid (combine_plus A B x y z r w Q tb CB CC)
  clear CB CC tb
  go_enter Tryz.func37, Tryz.ntmps37
  have ST : St w w [] [] [] := St.zero
  replace ST := Lib.hid ST
  go_wp2_with fail
  refine CO.out.mono ?_
  rintro e w5 ⟨rfl, hb5⟩
  obtain ⟨T, hT⟩ : ∃ T, T = (if dn Q.num ≤ 1000 ∧ dn Q.den ≤ 1000 then qx Q else ⟨#[]⟩) := ⟨_, rfl⟩
  obtain ⟨E, hE⟩ : ∃ E : Int, E = (if dn Q.num ≤ 1000 ∧ dn Q.den ≤ 1000 then 0 else 3) := ⟨_, rfl⟩
  rw [← hT, ← hE]
  have HT := Lib.hid hT
  have HE := Lib.hid hE
  replace ST := Lib.hid (ST.out.call hb5)
  clear hT hE hb5
  go_wp2
  go_ret2
  exact ⟨by rw [← HT.out, ← HE.out]; rfl, ST.out.below⟩
set_option maxHeartbeats 4000000 in
set_option maxRecDepth 100000 in
theorem combine_minus (A B : ByteArray) (x y z r : Int) (w : World) (Q : Rat) (tb : Tb w) (CB : BP A B x y z r true) (CC : OpR2 97 x y z r Q.num Q.den) : Calls Tryz.prog 93 #[.string A, .string B, .func (.func 97) #[] #[]] w (GivesQx Q w) := by
  replace CB := Lib.hid CB
  replace CC := Lib.hid CC
  have TB := Lib.hid tb
  clear tb
  go_enter Tryz.func93, Tryz.ntmps93
  have ST : St w w [] [] [] := St.zero
  replace ST := Lib.hid ST
  go_wp2_with fail
  refine Calls.mono (CB.out _) ?_
  rintro e w1 ⟨px, vx, py, vy, pz, vz, pr, vr, rfl, nx, ny, nz, nr, hb1⟩
  obtain ⟨kxs, hxs⟩ : ∃ sgn, sgn = decide (x < 0) := ⟨_, rfl⟩
  rw [← hxs]
  have ix := And.intro nx hxs
  obtain ⟨kxt, kxa, kxn, rfl, rfl, -, -, -, -, -, -⟩ := nx.form
  obtain ⟨kys, hys⟩ : ∃ sgn, sgn = decide (y < 0) := ⟨_, rfl⟩
  rw [← hys]
  have iy := And.intro ny hys
  obtain ⟨kyt, kya, kyn, rfl, rfl, -, -, -, -, -, -⟩ := ny.form
  obtain ⟨kzs, hzs⟩ : ∃ sgn, sgn = decide (z < 0) := ⟨_, rfl⟩
  rw [← hzs]
  have iz := And.intro nz hzs
  obtain ⟨kzt, kza, kzn, rfl, rfl, -, -, -, -, -, -⟩ := nz.form
  obtain ⟨krs, hrs⟩ : ∃ sgn, sgn = decide (r < 0) := ⟨_, rfl⟩
  rw [← hrs]
  have ir := And.intro nr hrs
  obtain ⟨krt, kra, krn, rfl, rfl, -, -, -, -, -, -⟩ := nr.form
  replace ST := Lib.hid (((((ST.out.call hb1).know ix).know iy).know iz).know ir)
  clear ix iy iz ir nx ny nz nr hxs hys hzs hrs hb1
  go_upto_region 2 with fail
  obtain ⟨W1, hW⟩ : ∃ W, W = (w1.alloc (.cells #[.int .u64 kxt, .slice kxa kxn kxn, .bool kxs, .int .u64 kyt, .slice kya kyn kyn, .bool kys] 76)).alloc (.cells #[.int .u64 kzt, .slice kza kzn kzn, .bool kzs, .int .u64 krt, .slice kra krn krn, .bool krs] 76) := ⟨_, rfl⟩
  rw [← hW]
  replace ST := (ST.out.allocV (.int .u64 kxt) (.slice kxa kxn kxn) kxs (.int .u64 kyt) (.slice kya kyn kyn) kys 76 w1.heap.size rfl).allocV (.int .u64 kzt) (.slice kza kzn kzn) kzs (.int .u64 krt) (.slice kra krn krn) krs 76 (w1.heap.size + 1) (by first | rfl | (simp; done) | (simp; omega))
  rw [← hW] at ST
  clear hW
  replace ST := Lib.hid ST
  obtain ⟨k1, hk⟩ : ∃ k, k = w1.heap.size := ⟨_, rfl⟩
  rw [← hk] at ST ⊢
  clear hk
  obtain ⟨c0, c1, c2, c3, c4, c5⟩ := ST.out.rat (k := k1) (by with_reducible ((repeat ((fail_if_success exact mem0); apply List.mem_cons_of_mem)); exact mem0))
  obtain ⟨d0, d1, d2, d3, d4, d5⟩ := ST.out.rat (k := k1 + 1) (by with_reducible ((repeat ((fail_if_success exact mem0); apply List.mem_cons_of_mem)); exact mem0))
  go_wp2_with fail
  refine St.arm (w := w) (by exact ST.out) (by intro H; with_reducible exact CC.out.run (H.int (by with_reducible ((repeat ((fail_if_success exact mem0); apply List.mem_cons_of_mem)); exact mem0))) (H.int (by with_reducible ((repeat ((fail_if_success exact mem0); apply List.mem_cons_of_mem)); exact mem0))) (H.int (by with_reducible ((repeat ((fail_if_success exact mem0); apply List.mem_cons_of_mem)); exact mem0))) (H.int (by with_reducible ((repeat ((fail_if_success exact mem0); apply List.mem_cons_of_mem)); exact mem0)))) ?_
  rintro e w4 ⟨⟨p4, v4, o4, u4, rfl, hv4, hu4, hb4⟩, H⟩
  obtain ⟨r4s, hs4⟩ : ∃ sgn, sgn = decide (Q.num < 0) := ⟨_, rfl⟩
  obtain ⟨q4s, ht4⟩ : ∃ sgn, sgn = decide ((Q.den : Int) < 0) := ⟨_, rfl⟩
  rw [← hs4, ← ht4]
  have hi := And.intro hv4 hs4
  have hj := And.intro hu4 ht4
  obtain ⟨r4t, r4a, r4n, rfl, rfl, -, -, -, -, -, -⟩ := hv4.form
  obtain ⟨q4t, q4a, q4n, rfl, rfl, -, -, -, -, -, -⟩ := hu4.form
  replace ST := Lib.hid (((H.call hb4).know hj).know hi)
  clear hi hj hv4 hu4 hb4 hs4 ht4
  clear H c0 c1 c2 c3 c4 c5 d0 d1 d2 d3 d4 d5
  go_wp2_with fail
  refine Calls.mono (ratext_any _ _ _ _ _ _ Q _ (TB.out.below ST.out.below) (ST.out.int (by with_reducible ((repeat ((fail_if_success exact mem0); apply List.mem_cons_of_mem)); exact mem0))) (ST.out.int (by with_reducible ((repeat ((fail_if_success exact mem0); apply List.mem_cons_of_mem)); exact mem0)))) ?_
  rintro e w5 ⟨rfl, hb5⟩
  obtain ⟨T, hT⟩ : ∃ T, T = (if dn Q.num ≤ 1000 ∧ dn Q.den ≤ 1000 then qx Q else ⟨#[]⟩) := ⟨_, rfl⟩
  obtain ⟨E, hE⟩ : ∃ E : Int, E = (if dn Q.num ≤ 1000 ∧ dn Q.den ≤ 1000 then 0 else 3) := ⟨_, rfl⟩
  rw [← hT, ← hE]
  have HT := Lib.hid hT
  have HE := Lib.hid hE
  replace ST := Lib.hid (ST.out.call hb5)
  clear hT hE hb5
  go_wp2
  go_ret2
  exact ⟨by rw [← HT.out, ← HE.out]; rfl, ST.out.below⟩
theorem Sub_of (A B : ByteArray) (x y z r : Int) (w : World) (Q : Rat) (tb : Tb w) (CB : BP A B x y z r true) (CC : OpR2 97 x y z r Q.num Q.den) : Calls Tryz.prog 39 #[.string A, .string B] w (GivesQx Q w) := by
  have CO := Lib.hid (combine_minus A B x y z r w Q tb CB CC)
  clear CB CC tb
  go_enter Tryz.func39, Tryz.ntmps39
  have ST : St w w [] [] [] := St.zero
  replace ST := Lib.hid ST
  go_wp2_with fail
  refine CO.out.mono ?_
  rintro e w5 ⟨rfl, hb5⟩
  obtain ⟨T, hT⟩ : ∃ T, T = (if dn Q.num ≤ 1000 ∧ dn Q.den ≤ 1000 then qx Q else ⟨#[]⟩) := ⟨_, rfl⟩
  obtain ⟨E, hE⟩ : ∃ E : Int, E = (if dn Q.num ≤ 1000 ∧ dn Q.den ≤ 1000 then 0 else 3) := ⟨_, rfl⟩
  rw [← hT, ← hE]
  have HT := Lib.hid hT
  have HE := Lib.hid hE
  replace ST := Lib.hid (ST.out.call hb5)
  clear hT hE hb5
  go_wp2
  go_ret2
  exact ⟨by rw [← HT.out, ← HE.out]; rfl, ST.out.below⟩
set_option maxHeartbeats 4000000 in
set_option maxRecDepth 100000 in
theorem combine_middle (A B : ByteArray) (x y z r : Int) (w : World) (Q : Rat) (tb : Tb w) (CB : BP A B x y z r true) (CC : OpR2 105 x y z r Q.num Q.den) : Calls Tryz.prog 93 #[.string A, .string B, .func (.func 105) #[] #[]] w (GivesQx Q w) := by
  replace CB := Lib.hid CB
  replace CC := Lib.hid CC
  have TB := Lib.hid tb
  clear tb
  go_enter Tryz.func93, Tryz.ntmps93
  have ST : St w w [] [] [] := St.zero
  replace ST := Lib.hid ST
  go_wp2_with fail
  refine Calls.mono (CB.out _) ?_
  rintro e w1 ⟨px, vx, py, vy, pz, vz, pr, vr, rfl, nx, ny, nz, nr, hb1⟩
  obtain ⟨kxs, hxs⟩ : ∃ sgn, sgn = decide (x < 0) := ⟨_, rfl⟩
  rw [← hxs]
  have ix := And.intro nx hxs
  obtain ⟨kxt, kxa, kxn, rfl, rfl, -, -, -, -, -, -⟩ := nx.form
  obtain ⟨kys, hys⟩ : ∃ sgn, sgn = decide (y < 0) := ⟨_, rfl⟩
  rw [← hys]
  have iy := And.intro ny hys
  obtain ⟨kyt, kya, kyn, rfl, rfl, -, -, -, -, -, -⟩ := ny.form
  obtain ⟨kzs, hzs⟩ : ∃ sgn, sgn = decide (z < 0) := ⟨_, rfl⟩
  rw [← hzs]
  have iz := And.intro nz hzs
  obtain ⟨kzt, kza, kzn, rfl, rfl, -, -, -, -, -, -⟩ := nz.form
  obtain ⟨krs, hrs⟩ : ∃ sgn, sgn = decide (r < 0) := ⟨_, rfl⟩
  rw [← hrs]
  have ir := And.intro nr hrs
  obtain ⟨krt, kra, krn, rfl, rfl, -, -, -, -, -, -⟩ := nr.form
  replace ST := Lib.hid (((((ST.out.call hb1).know ix).know iy).know iz).know ir)
  clear ix iy iz ir nx ny nz nr hxs hys hzs hrs hb1
  go_upto_region 2 with fail
  obtain ⟨W1, hW⟩ : ∃ W, W = (w1.alloc (.cells #[.int .u64 kxt, .slice kxa kxn kxn, .bool kxs, .int .u64 kyt, .slice kya kyn kyn, .bool kys] 76)).alloc (.cells #[.int .u64 kzt, .slice kza kzn kzn, .bool kzs, .int .u64 krt, .slice kra krn krn, .bool krs] 76) := ⟨_, rfl⟩
  rw [← hW]
  replace ST := (ST.out.allocV (.int .u64 kxt) (.slice kxa kxn kxn) kxs (.int .u64 kyt) (.slice kya kyn kyn) kys 76 w1.heap.size rfl).allocV (.int .u64 kzt) (.slice kza kzn kzn) kzs (.int .u64 krt) (.slice kra krn krn) krs 76 (w1.heap.size + 1) (by first | rfl | (simp; done) | (simp; omega))
  rw [← hW] at ST
  clear hW
  replace ST := Lib.hid ST
  obtain ⟨k1, hk⟩ : ∃ k, k = w1.heap.size := ⟨_, rfl⟩
  rw [← hk] at ST ⊢
  clear hk
  obtain ⟨c0, c1, c2, c3, c4, c5⟩ := ST.out.rat (k := k1) (by with_reducible ((repeat ((fail_if_success exact mem0); apply List.mem_cons_of_mem)); exact mem0))
  obtain ⟨d0, d1, d2, d3, d4, d5⟩ := ST.out.rat (k := k1 + 1) (by with_reducible ((repeat ((fail_if_success exact mem0); apply List.mem_cons_of_mem)); exact mem0))
  go_wp2_with fail
  refine St.arm (w := w) (by exact ST.out) (by intro H; with_reducible exact CC.out.run (H.int (by with_reducible ((repeat ((fail_if_success exact mem0); apply List.mem_cons_of_mem)); exact mem0))) (H.int (by with_reducible ((repeat ((fail_if_success exact mem0); apply List.mem_cons_of_mem)); exact mem0))) (H.int (by with_reducible ((repeat ((fail_if_success exact mem0); apply List.mem_cons_of_mem)); exact mem0))) (H.int (by with_reducible ((repeat ((fail_if_success exact mem0); apply List.mem_cons_of_mem)); exact mem0)))) ?_
  rintro e w4 ⟨⟨p4, v4, o4, u4, rfl, hv4, hu4, hb4⟩, H⟩
  obtain ⟨r4s, hs4⟩ : ∃ sgn, sgn = decide (Q.num < 0) := ⟨_, rfl⟩
  obtain ⟨q4s, ht4⟩ : ∃ sgn, sgn = decide ((Q.den : Int) < 0) := ⟨_, rfl⟩
  rw [← hs4, ← ht4]
  have hi := And.intro hv4 hs4
  have hj := And.intro hu4 ht4
  obtain ⟨r4t, r4a, r4n, rfl, rfl, -, -, -, -, -, -⟩ := hv4.form
  obtain ⟨q4t, q4a, q4n, rfl, rfl, -, -, -, -, -, -⟩ := hu4.form
  replace ST := Lib.hid (((H.call hb4).know hj).know hi)
  clear hi hj hv4 hu4 hb4 hs4 ht4
  clear H c0 c1 c2 c3 c4 c5 d0 d1 d2 d3 d4 d5
  go_wp2_with fail
  refine Calls.mono (ratext_any _ _ _ _ _ _ Q _ (TB.out.below ST.out.below) (ST.out.int (by with_reducible ((repeat ((fail_if_success exact mem0); apply List.mem_cons_of_mem)); exact mem0))) (ST.out.int (by with_reducible ((repeat ((fail_if_success exact mem0); apply List.mem_cons_of_mem)); exact mem0)))) ?_
  rintro e w5 ⟨rfl, hb5⟩
  obtain ⟨T, hT⟩ : ∃ T, T = (if dn Q.num ≤ 1000 ∧ dn Q.den ≤ 1000 then qx Q else ⟨#[]⟩) := ⟨_, rfl⟩
  obtain ⟨E, hE⟩ : ∃ E : Int, E = (if dn Q.num ≤ 1000 ∧ dn Q.den ≤ 1000 then 0 else 3) := ⟨_, rfl⟩
  rw [← hT, ← hE]
  have HT := Lib.hid hT
  have HE := Lib.hid hE
  replace ST := Lib.hid (ST.out.call hb5)
  clear hT hE hb5
  go_wp2
  go_ret2
  exact ⟨by rw [← HT.out, ← HE.out]; rfl, ST.out.below⟩
theorem Mid_of (A B : ByteArray) (x y z r : Int) (w : World) (Q : Rat) (tb : Tb w) (CB : BP A B x y z r true) (CC : OpR2 105 x y z r Q.num Q.den) : Calls Tryz.prog 45 #[.string A, .string B] w (GivesQx Q w) := by
  have CO := Lib.hid (combine_middle A B x y z r w Q tb CB CC)
  clear CB CC tb
  go_enter Tryz.func45, Tryz.ntmps45
  have ST : St w w [] [] [] := St.zero
  replace ST := Lib.hid ST
  go_wp2_with fail
  refine CO.out.mono ?_
  rintro e w5 ⟨rfl, hb5⟩
  obtain ⟨T, hT⟩ : ∃ T, T = (if dn Q.num ≤ 1000 ∧ dn Q.den ≤ 1000 then qx Q else ⟨#[]⟩) := ⟨_, rfl⟩
  obtain ⟨E, hE⟩ : ∃ E : Int, E = (if dn Q.num ≤ 1000 ∧ dn Q.den ≤ 1000 then 0 else 3) := ⟨_, rfl⟩
  rw [← hT, ← hE]
  have HT := Lib.hid hT
  have HE := Lib.hid hE
  replace ST := Lib.hid (ST.out.call hb5)
  clear hT hE hb5
  go_wp2
  go_ret2
  exact ⟨by rw [← HT.out, ← HE.out]; rfl, ST.out.below⟩
theorem zero_not {z : Int} (h : z ≠ 0) {p v : Value} {b : Bool} {W : World} (hx : IntV W p v b z) : Calls Tryz.prog 101 #[.agg #[p, v]] W (GivesBo false W) := by
  refine (isZero_false p v z.natAbs W hx.1 (by omega)).mono ?_
  rintro e w' ⟨rfl, rfl⟩
  exact ⟨rfl, ((Below.refl _ _).alloc (Nat.le_refl _) _).alloc (by simp) _⟩
theorem zero_yes {z : Int} (h : z = 0) {p v : Value} {b : Bool} {W : World} (hx : IntV W p v b z) : Calls Tryz.prog 101 #[.agg #[p, v]] W (GivesBo true W) := by
  subst h
  refine (isZero_true p v W hx.1).mono ?_
  rintro e w' ⟨rfl, rfl⟩
  exact ⟨rfl, ((Below.refl _ _).alloc (Nat.le_refl _) _).alloc (by simp) _⟩
set_option maxHeartbeats 4000000 in
set_option maxRecDepth 100000 in
theorem Div_zero (A B : ByteArray) (x y z r : Int) (w : World) (CB : BP A B x y z r true) (h0 : z = 0) : Calls Tryz.prog 43 #[.string A, .string B] w (GivesSn ⟨#[]⟩ 9 w) := by
  replace CB := Lib.hid CB
  have ZD := Lib.hid h0
  clear h0
  go_enter Tryz.func43, Tryz.ntmps43
  have ST : St w w [] [] [] := St.zero
  replace ST := Lib.hid ST
  go_wp2_with fail
  refine Calls.mono (CB.out _) ?_
  rintro e w1 ⟨px, vx, py, vy, pz, vz, pr, vr, rfl, nx, ny, nz, nr, hb1⟩
  obtain ⟨kxs, hxs⟩ : ∃ sgn, sgn = decide (x < 0) := ⟨_, rfl⟩
  rw [← hxs]
  have ix := And.intro nx hxs
  obtain ⟨kxt, kxa, kxn, rfl, rfl, -, -, -, -, -, -⟩ := nx.form
  obtain ⟨kys, hys⟩ : ∃ sgn, sgn = decide (y < 0) := ⟨_, rfl⟩
  rw [← hys]
  have iy := And.intro ny hys
  obtain ⟨kyt, kya, kyn, rfl, rfl, -, -, -, -, -, -⟩ := ny.form
  obtain ⟨kzs, hzs⟩ : ∃ sgn, sgn = decide (z < 0) := ⟨_, rfl⟩
  rw [← hzs]
  have iz := And.intro nz hzs
  obtain ⟨kzt, kza, kzn, rfl, rfl, -, -, -, -, -, -⟩ := nz.form
  obtain ⟨krs, hrs⟩ : ∃ sgn, sgn = decide (r < 0) := ⟨_, rfl⟩
  rw [← hrs]
  have ir := And.intro nr hrs
  obtain ⟨krt, kra, krn, rfl, rfl, -, -, -, -, -, -⟩ := nr.form
  replace ST := Lib.hid (((((ST.out.call hb1).know ix).know iy).know iz).know ir)
  clear ix iy iz ir nx ny nz nr hxs hys hzs hrs hb1
  go_upto_region 2 with fail
  obtain ⟨W1, hW⟩ : ∃ W, W = (w1.alloc (.cells #[.int .u64 kxt, .slice kxa kxn kxn, .bool kxs, .int .u64 kyt, .slice kya kyn kyn, .bool kys] 76)).alloc (.cells #[.int .u64 kzt, .slice kza kzn kzn, .bool kzs, .int .u64 krt, .slice kra krn krn, .bool krs] 76) := ⟨_, rfl⟩
  rw [← hW]
  replace ST := (ST.out.allocV (.int .u64 kxt) (.slice kxa kxn kxn) kxs (.int .u64 kyt) (.slice kya kyn kyn) kys 76 w1.heap.size rfl).allocV (.int .u64 kzt) (.slice kza kzn kzn) kzs (.int .u64 krt) (.slice kra krn krn) krs 76 (w1.heap.size + 1) (by first | rfl | (simp; done) | (simp; omega))
  rw [← hW] at ST
  clear hW
  replace ST := Lib.hid ST
  obtain ⟨k1, hk⟩ : ∃ k, k = w1.heap.size := ⟨_, rfl⟩
  rw [← hk] at ST ⊢
  clear hk
  obtain ⟨d0, d1, d2, d3, d4, d5⟩ := ST.out.rat (k := k1 + 1) (by with_reducible ((repeat ((fail_if_success exact mem0); apply List.mem_cons_of_mem)); exact mem0))
  go_wp2_with fail
  refine St.arm (w := w) (by exact ST.out) (by intro H; exact zero_yes ZD.out (H.int (x := z) (by with_reducible ((repeat ((fail_if_success exact mem0); apply List.mem_cons_of_mem)); exact mem0)))) ?_
  rintro e w3 ⟨⟨rfl, hb3⟩, H⟩
  replace ST := Lib.hid (H.call hb3)
  clear d0 d1 d2 d3 d4 d5 hb3 H
  go_wp2
  go_ret2
  exact ⟨rfl, ST.out.below⟩
end Go.Proofs.YtkhebidmfjbhaaaGreatDoor
namespace Go.Proofs.YtkhebidmfjbhaaaGreatDoor
open Go.RowKit

end Go.Proofs.YtkhebidmfjbhaaaGreatDoor
