/-
  What Cmp, Min and Max return.
-/
import Derived.Test.YtmoggebdfijopaaGreatDoorZ30
import Derived.Deep.RegionHeld3
import Derived.Deep.Cut
namespace Go.Proofs.YtmoggebdfijopaaGreatDoor
open Go.RowKit

theorem St.allocV {w W : World} {R : List (Nat × Value × Value × Bool × Value × Value × Bool)} {Z : List (Nat × Value × Value × Bool)} {N : List (Value × Value × Bool × Int)} (h : St w W R Z N) (p v : Value) (b : Bool) (q u : Value) (c : Bool) (t : TypeId) (k : Nat) (hk : k = W.heap.size) :
    St w (W.alloc (.cells #[p, v, .bool b, q, u, .bool c] t)) ((k, p, v, b, q, u, c) :: R) Z N := h.allocR hk
theorem St.allocN {w W : World} {R : List (Nat × Value × Value × Bool × Value × Value × Bool)} {Z : List (Nat × Value × Value × Bool)} {N : List (Value × Value × Bool × Int)} (h : St w W R Z N) (p v : Value) (b : Bool) (t : TypeId) (k : Nat) (hk : k = W.heap.size) :
    St w (W.alloc (.cells #[p, v, .bool b] t)) R ((k, p, v, b) :: Z) N := h.alloc hk
theorem OpC.run {x y z r t : Int} {p v q u p' v' q' u' : Value} {b c b' c' : Bool} {W : World} (h : OpC x y z r t) (hx : IntV W p v b x) (hy : IntV W q u c y) (hz : IntV W p' v' b' z) (hr : IntV W q' u' c' r) : Calls Tryz.prog 86 #[.agg #[p, v, .bool b, q, u, .bool c], .agg #[p', v', .bool b', q', u', .bool c']] W (GivesI t W) := h p v b q u c p' v' b' q' u' c' W hx hy hz hr
/-- What less of two rational numbers answers. -/
def OpL (x y z r : Int) (t : Bool) : Prop := ∀ (p v : Value) (b : Bool) (q u : Value) (c : Bool) (p' v' : Value) (b' : Bool) (q' u' : Value) (c' : Bool) (W : World), IntV W p v b x → IntV W q u c y → IntV W p' v' b' z → IntV W q' u' c' r → Calls Tryz.prog 87 #[.agg #[p, v, .bool b, q, u, .bool c], .agg #[p', v', .bool b', q', u', .bool c']] W (GivesBo t W)
theorem OpL.run {x y z r : Int} {t : Bool} {p v q u p' v' q' u' : Value} {b c b' c' : Bool} {W : World} (h : OpL x y z r t) (hx : IntV W p v b x) (hy : IntV W q u c y) (hz : IntV W p' v' b' z) (hr : IntV W q' u' c' r) : Calls Tryz.prog 87 #[.agg #[p, v, .bool b, q, u, .bool c], .agg #[p', v', .bool b', q', u', .bool c']] W (GivesBo t W) := h p v b q u c p' v' b' q' u' c' W hx hy hz hr
theorem lessR_run {x y z r : Int} (hx9 : nl x.natAbs ≤ 20000) (hy9 : nl y.natAbs ≤ 20000) (hz9 : nl z.natAbs ≤ 20000) (hr9 : nl r.natAbs ≤ 20000) : OpL x y z r (decide (x * r < z * y)) := fun p v b q u c p' v' b' q' u' c' W h1 h2 h3 h4 => lessR_any p v b q u c p' v' b' q' u' c' x y z r W h1 h2 h3 h4 hx9 hy9 hz9 hr9
/-- What both answers for two texts. -/
def BE (A B : ByteArray) (x y z r : Int) (ok : Bool) : Prop := ∀ W, Calls Tryz.prog 85 #[.string A, .string B, .func (.func 82) #[] #[]] W (GivesB2 x y z r ok W)
def BP (A B : ByteArray) (x y z r : Int) (ok : Bool) : Prop := ∀ W, Calls Tryz.prog 85 #[.string A, .string B, .func (.func 79) #[] #[]] W (GivesB2 x y z r ok W)
theorem BE.ok {A B : ByteArray} {x y z r : Int} (a : PE A x y true) (b : PE B z r true) : BE A B x y z r true := fun W => both_okE A B x y z r W a b
theorem BP.ok {A B : ByteArray} {x y z r : Int} (a : PR A x y true) (b : PR B z r true) : BP A B x y z r true := fun W => both_ok A B x y z r W a b
set_option maxHeartbeats 4000000 in
set_option maxRecDepth 100000 in
theorem Cmp_of (A B : ByteArray) (x y z r : Int) (w : World) (t : Int) (CB : BE A B x y z r true) (CC : OpC x y z r t) : Calls Tryz.prog 25 #[.string A, .string B] w (GivesI t w) := by
  replace CB := Lib.hid CB
  replace CC := Lib.hid CC
  go_enter Tryz.func25, Tryz.ntmps25
  have ST : St w w [] [] [] := St.zero
  replace ST := Lib.hid ST
  go_wp2_with fail
  refine Calls.mono (CB.out _) ?_
  rintro e w1 ⟨px, vx, py, vy, pz, vz, pr, vr, rfl, nx, ny, nz, nr, hb1⟩
  obtain ⟨kxs, hxs⟩ : ∃ sgn, sgn = decide (x < 0) := ⟨_, rfl⟩
  rw [← hxs]
  have ix := And.intro nx hxs
  obtain ⟨kxt, kxa, kxn, rfl, rfl, -, -, -, -, -, -⟩ := nx.form
  obtain ⟨kys, hys⟩ : ∃ sgn, sgn = decide (y < 0) := ⟨_, rfl⟩
  rw [← hys]
  have iy := And.intro ny hys
  obtain ⟨kyt, kya, kyn, rfl, rfl, -, -, -, -, -, -⟩ := ny.form
  obtain ⟨kzs, hzs⟩ : ∃ sgn, sgn = decide (z < 0) := ⟨_, rfl⟩
  rw [← hzs]
  have iz := And.intro nz hzs
  obtain ⟨kzt, kza, kzn, rfl, rfl, -, -, -, -, -, -⟩ := nz.form
  obtain ⟨krs, hrs⟩ : ∃ sgn, sgn = decide (r < 0) := ⟨_, rfl⟩
  rw [← hrs]
  have ir := And.intro nr hrs
  obtain ⟨krt, kra, krn, rfl, rfl, -, -, -, -, -, -⟩ := nr.form
  replace ST := Lib.hid (((((ST.out.call hb1).know ix).know iy).know iz).know ir)
  clear ix iy iz ir nx ny nz nr hxs hys hzs hrs hb1
  go_upto_region 2 with fail
  obtain ⟨W1, hW⟩ : ∃ W, W = (w1.alloc (.cells #[.int .u64 kxt, .slice kxa kxn kxn, .bool kxs, .int .u64 kyt, .slice kya kyn kyn, .bool kys] 76)).alloc (.cells #[.int .u64 kzt, .slice kza kzn kzn, .bool kzs, .int .u64 krt, .slice kra krn krn, .bool krs] 76) := ⟨_, rfl⟩
  rw [← hW]
  replace ST := (ST.out.allocV (.int .u64 kxt) (.slice kxa kxn kxn) kxs (.int .u64 kyt) (.slice kya kyn kyn) kys 76 w1.heap.size rfl).allocV (.int .u64 kzt) (.slice kza kzn kzn) kzs (.int .u64 krt) (.slice kra krn krn) krs 76 (w1.heap.size + 1) (by first | rfl | (simp; done) | (simp; omega))
  rw [← hW] at ST
  clear hW
  replace ST := Lib.hid ST
  obtain ⟨k1, hk⟩ : ∃ k, k = w1.heap.size := ⟨_, rfl⟩
  rw [← hk] at ST ⊢
  clear hk
  obtain ⟨c0, c1, c2, c3, c4, c5⟩ := ST.out.rat (k := k1) (by with_reducible ((repeat ((fail_if_success exact mem0); apply List.mem_cons_of_mem)); exact mem0))
  obtain ⟨d0, d1, d2, d3, d4, d5⟩ := ST.out.rat (k := k1 + 1) (by with_reducible ((repeat ((fail_if_success exact mem0); apply List.mem_cons_of_mem)); exact mem0))
  go_wp2_with fail
  refine St.arm (w := w) (by exact ST.out) (by intro H; with_reducible exact CC.out.run (H.int (by with_reducible ((repeat ((fail_if_success exact mem0); apply List.mem_cons_of_mem)); exact mem0))) (H.int (by with_reducible ((repeat ((fail_if_success exact mem0); apply List.mem_cons_of_mem)); exact mem0))) (H.int (by with_reducible ((repeat ((fail_if_success exact mem0); apply List.mem_cons_of_mem)); exact mem0))) (H.int (by with_reducible ((repeat ((fail_if_success exact mem0); apply List.mem_cons_of_mem)); exact mem0)))) ?_
  rintro e w2 ⟨⟨rfl, hb2⟩, H⟩
  replace ST := Lib.hid (H.call hb2)
  clear hb2 H c0 c1 c2 c3 c4 c5 d0 d1 d2 d3 d4 d5
  go_wp2
  go_ret
  exact ⟨rfl, ST.out.below⟩
set_option maxHeartbeats 4000000 in
set_option maxRecDepth 100000 in
theorem Min_true (A B : ByteArray) (x y z r : Int) (w : World) (CB : BE A B x y z r true) (CC : OpL z r x y true) : Calls Tryz.prog 27 #[.string A, .string B] w (GivesY B w) := by
  replace CB := Lib.hid CB
  replace CC := Lib.hid CC
  go_enter Tryz.func27, Tryz.ntmps27
  have ST : St w w [] [] [] := St.zero
  replace ST := Lib.hid ST
  go_wp2_with fail
  refine Calls.mono (CB.out _) ?_
  rintro e w1 ⟨px, vx, py, vy, pz, vz, pr, vr, rfl, nx, ny, nz, nr, hb1⟩
  obtain ⟨kxs, hxs⟩ : ∃ sgn, sgn = decide (x < 0) := ⟨_, rfl⟩
  rw [← hxs]
  have ix := And.intro nx hxs
  obtain ⟨kxt, kxa, kxn, rfl, rfl, -, -, -, -, -, -⟩ := nx.form
  obtain ⟨kys, hys⟩ : ∃ sgn, sgn = decide (y < 0) := ⟨_, rfl⟩
  rw [← hys]
  have iy := And.intro ny hys
  obtain ⟨kyt, kya, kyn, rfl, rfl, -, -, -, -, -, -⟩ := ny.form
  obtain ⟨kzs, hzs⟩ : ∃ sgn, sgn = decide (z < 0) := ⟨_, rfl⟩
  rw [← hzs]
  have iz := And.intro nz hzs
  obtain ⟨kzt, kza, kzn, rfl, rfl, -, -, -, -, -, -⟩ := nz.form
  obtain ⟨krs, hrs⟩ : ∃ sgn, sgn = decide (r < 0) := ⟨_, rfl⟩
  rw [← hrs]
  have ir := And.intro nr hrs
  obtain ⟨krt, kra, krn, rfl, rfl, -, -, -, -, -, -⟩ := nr.form
  replace ST := Lib.hid (((((ST.out.call hb1).know ix).know iy).know iz).know ir)
  clear ix iy iz ir nx ny nz nr hxs hys hzs hrs hb1
  go_upto_region 2 with fail
  obtain ⟨W1, hW⟩ : ∃ W, W = (w1.alloc (.cells #[.int .u64 kxt, .slice kxa kxn kxn, .bool kxs, .int .u64 kyt, .slice kya kyn kyn, .bool kys] 76)).alloc (.cells #[.int .u64 kzt, .slice kza kzn kzn, .bool kzs, .int .u64 krt, .slice kra krn krn, .bool krs] 76) := ⟨_, rfl⟩
  rw [← hW]
  replace ST := (ST.out.allocV (.int .u64 kxt) (.slice kxa kxn kxn) kxs (.int .u64 kyt) (.slice kya kyn kyn) kys 76 w1.heap.size rfl).allocV (.int .u64 kzt) (.slice kza kzn kzn) kzs (.int .u64 krt) (.slice kra krn krn) krs 76 (w1.heap.size + 1) (by first | rfl | (simp; done) | (simp; omega))
  rw [← hW] at ST
  clear hW
  replace ST := Lib.hid ST
  obtain ⟨k1, hk⟩ : ∃ k, k = w1.heap.size := ⟨_, rfl⟩
  rw [← hk] at ST ⊢
  clear hk
  obtain ⟨c0, c1, c2, c3, c4, c5⟩ := ST.out.rat (k := k1) (by with_reducible ((repeat ((fail_if_success exact mem0); apply List.mem_cons_of_mem)); exact mem0))
  obtain ⟨d0, d1, d2, d3, d4, d5⟩ := ST.out.rat (k := k1 + 1) (by with_reducible ((repeat ((fail_if_success exact mem0); apply List.mem_cons_of_mem)); exact mem0))
  go_wp2_with fail
  refine St.arm (w := w) (by exact ST.out) (by intro H; with_reducible exact CC.out.run (H.int (by with_reducible ((repeat ((fail_if_success exact mem0); apply List.mem_cons_of_mem)); exact mem0))) (H.int (by with_reducible ((repeat ((fail_if_success exact mem0); apply List.mem_cons_of_mem)); exact mem0))) (H.int (by with_reducible ((repeat ((fail_if_success exact mem0); apply List.mem_cons_of_mem)); exact mem0))) (H.int (by with_reducible ((repeat ((fail_if_success exact mem0); apply List.mem_cons_of_mem)); exact mem0)))) ?_
  rintro e w2 ⟨⟨rfl, hb2⟩, H⟩
  replace ST := Lib.hid (H.call hb2)
  clear hb2 H c0 c1 c2 c3 c4 c5 d0 d1 d2 d3 d4 d5
  go_wp2
  go_ret
  exact ⟨rfl, ST.out.below⟩
set_option maxHeartbeats 4000000 in
set_option maxRecDepth 100000 in
theorem Min_false (A B : ByteArray) (x y z r : Int) (w : World) (CB : BE A B x y z r true) (CC : OpL z r x y false) : Calls Tryz.prog 27 #[.string A, .string B] w (GivesY A w) := by
  replace CB := Lib.hid CB
  replace CC := Lib.hid CC
  go_enter Tryz.func27, Tryz.ntmps27
  have ST : St w w [] [] [] := St.zero
  replace ST := Lib.hid ST
  go_wp2_with fail
  refine Calls.mono (CB.out _) ?_
  rintro e w1 ⟨px, vx, py, vy, pz, vz, pr, vr, rfl, nx, ny, nz, nr, hb1⟩
  obtain ⟨kxs, hxs⟩ : ∃ sgn, sgn = decide (x < 0) := ⟨_, rfl⟩
  rw [← hxs]
  have ix := And.intro nx hxs
  obtain ⟨kxt, kxa, kxn, rfl, rfl, -, -, -, -, -, -⟩ := nx.form
  obtain ⟨kys, hys⟩ : ∃ sgn, sgn = decide (y < 0) := ⟨_, rfl⟩
  rw [← hys]
  have iy := And.intro ny hys
  obtain ⟨kyt, kya, kyn, rfl, rfl, -, -, -, -, -, -⟩ := ny.form
  obtain ⟨kzs, hzs⟩ : ∃ sgn, sgn = decide (z < 0) := ⟨_, rfl⟩
  rw [← hzs]
  have iz := And.intro nz hzs
  obtain ⟨kzt, kza, kzn, rfl, rfl, -, -, -, -, -, -⟩ := nz.form
  obtain ⟨krs, hrs⟩ : ∃ sgn, sgn = decide (r < 0) := ⟨_, rfl⟩
  rw [← hrs]
  have ir := And.intro nr hrs
  obtain ⟨krt, kra, krn, rfl, rfl, -, -, -, -, -, -⟩ := nr.form
  replace ST := Lib.hid (((((ST.out.call hb1).know ix).know iy).know iz).know ir)
  clear ix iy iz ir nx ny nz nr hxs hys hzs hrs hb1
  go_upto_region 2 with fail
  obtain ⟨W1, hW⟩ : ∃ W, W = (w1.alloc (.cells #[.int .u64 kxt, .slice kxa kxn kxn, .bool kxs, .int .u64 kyt, .slice kya kyn kyn, .bool kys] 76)).alloc (.cells #[.int .u64 kzt, .slice kza kzn kzn, .bool kzs, .int .u64 krt, .slice kra krn krn, .bool krs] 76) := ⟨_, rfl⟩
  rw [← hW]
  replace ST := (ST.out.allocV (.int .u64 kxt) (.slice kxa kxn kxn) kxs (.int .u64 kyt) (.slice kya kyn kyn) kys 76 w1.heap.size rfl).allocV (.int .u64 kzt) (.slice kza kzn kzn) kzs (.int .u64 krt) (.slice kra krn krn) krs 76 (w1.heap.size + 1) (by first | rfl | (simp; done) | (simp; omega))
  rw [← hW] at ST
  clear hW
  replace ST := Lib.hid ST
  obtain ⟨k1, hk⟩ : ∃ k, k = w1.heap.size := ⟨_, rfl⟩
  rw [← hk] at ST ⊢
  clear hk
  obtain ⟨c0, c1, c2, c3, c4, c5⟩ := ST.out.rat (k := k1) (by with_reducible ((repeat ((fail_if_success exact mem0); apply List.mem_cons_of_mem)); exact mem0))
  obtain ⟨d0, d1, d2, d3, d4, d5⟩ := ST.out.rat (k := k1 + 1) (by with_reducible ((repeat ((fail_if_success exact mem0); apply List.mem_cons_of_mem)); exact mem0))
  go_wp2_with fail
  refine St.arm (w := w) (by exact ST.out) (by intro H; with_reducible exact CC.out.run (H.int (by with_reducible ((repeat ((fail_if_success exact mem0); apply List.mem_cons_of_mem)); exact mem0))) (H.int (by with_reducible ((repeat ((fail_if_success exact mem0); apply List.mem_cons_of_mem)); exact mem0))) (H.int (by with_reducible ((repeat ((fail_if_success exact mem0); apply List.mem_cons_of_mem)); exact mem0))) (H.int (by with_reducible ((repeat ((fail_if_success exact mem0); apply List.mem_cons_of_mem)); exact mem0)))) ?_
  rintro e w2 ⟨⟨rfl, hb2⟩, H⟩
  replace ST := Lib.hid (H.call hb2)
  clear hb2 H c0 c1 c2 c3 c4 c5 d0 d1 d2 d3 d4 d5
  go_wp2
  go_ret
  exact ⟨rfl, ST.out.below⟩
set_option maxHeartbeats 4000000 in
set_option maxRecDepth 100000 in
theorem Max_true (A B : ByteArray) (x y z r : Int) (w : World) (CB : BE A B x y z r true) (CC : OpL x y z r true) : Calls Tryz.prog 29 #[.string A, .string B] w (GivesY B w) := by
  replace CB := Lib.hid CB
  replace CC := Lib.hid CC
  go_enter Tryz.func29, Tryz.ntmps29
  have ST : St w w [] [] [] := St.zero
  replace ST := Lib.hid ST
  go_wp2_with fail
  refine Calls.mono (CB.out _) ?_
  rintro e w1 ⟨px, vx, py, vy, pz, vz, pr, vr, rfl, nx, ny, nz, nr, hb1⟩
  obtain ⟨kxs, hxs⟩ : ∃ sgn, sgn = decide (x < 0) := ⟨_, rfl⟩
  rw [← hxs]
  have ix := And.intro nx hxs
  obtain ⟨kxt, kxa, kxn, rfl, rfl, -, -, -, -, -, -⟩ := nx.form
  obtain ⟨kys, hys⟩ : ∃ sgn, sgn = decide (y < 0) := ⟨_, rfl⟩
  rw [← hys]
  have iy := And.intro ny hys
  obtain ⟨kyt, kya, kyn, rfl, rfl, -, -, -, -, -, -⟩ := ny.form
  obtain ⟨kzs, hzs⟩ : ∃ sgn, sgn = decide (z < 0) := ⟨_, rfl⟩
  rw [← hzs]
  have iz := And.intro nz hzs
  obtain ⟨kzt, kza, kzn, rfl, rfl, -, -, -, -, -, -⟩ := nz.form
  obtain ⟨krs, hrs⟩ : ∃ sgn, sgn = decide (r < 0) := ⟨_, rfl⟩
  rw [← hrs]
  have ir := And.intro nr hrs
  obtain ⟨krt, kra, krn, rfl, rfl, -, -, -, -, -, -⟩ := nr.form
  replace ST := Lib.hid (((((ST.out.call hb1).know ix).know iy).know iz).know ir)
  clear ix iy iz ir nx ny nz nr hxs hys hzs hrs hb1
  go_upto_region 2 with fail
  obtain ⟨W1, hW⟩ : ∃ W, W = (w1.alloc (.cells #[.int .u64 kxt, .slice kxa kxn kxn, .bool kxs, .int .u64 kyt, .slice kya kyn kyn, .bool kys] 76)).alloc (.cells #[.int .u64 kzt, .slice kza kzn kzn, .bool kzs, .int .u64 krt, .slice kra krn krn, .bool krs] 76) := ⟨_, rfl⟩
  rw [← hW]
  replace ST := (ST.out.allocV (.int .u64 kxt) (.slice kxa kxn kxn) kxs (.int .u64 kyt) (.slice kya kyn kyn) kys 76 w1.heap.size rfl).allocV (.int .u64 kzt) (.slice kza kzn kzn) kzs (.int .u64 krt) (.slice kra krn krn) krs 76 (w1.heap.size + 1) (by first | rfl | (simp; done) | (simp; omega))
  rw [← hW] at ST
  clear hW
  replace ST := Lib.hid ST
  obtain ⟨k1, hk⟩ : ∃ k, k = w1.heap.size := ⟨_, rfl⟩
  rw [← hk] at ST ⊢
  clear hk
  obtain ⟨c0, c1, c2, c3, c4, c5⟩ := ST.out.rat (k := k1) (by with_reducible ((repeat ((fail_if_success exact mem0); apply List.mem_cons_of_mem)); exact mem0))
  obtain ⟨d0, d1, d2, d3, d4, d5⟩ := ST.out.rat (k := k1 + 1) (by with_reducible ((repeat ((fail_if_success exact mem0); apply List.mem_cons_of_mem)); exact mem0))
  go_wp2_with fail
  refine St.arm (w := w) (by exact ST.out) (by intro H; with_reducible exact CC.out.run (H.int (by with_reducible ((repeat ((fail_if_success exact mem0); apply List.mem_cons_of_mem)); exact mem0))) (H.int (by with_reducible ((repeat ((fail_if_success exact mem0); apply List.mem_cons_of_mem)); exact mem0))) (H.int (by with_reducible ((repeat ((fail_if_success exact mem0); apply List.mem_cons_of_mem)); exact mem0))) (H.int (by with_reducible ((repeat ((fail_if_success exact mem0); apply List.mem_cons_of_mem)); exact mem0)))) ?_
  rintro e w2 ⟨⟨rfl, hb2⟩, H⟩
  replace ST := Lib.hid (H.call hb2)
  clear hb2 H c0 c1 c2 c3 c4 c5 d0 d1 d2 d3 d4 d5
  go_wp2
  go_ret
  exact ⟨rfl, ST.out.below⟩
set_option maxHeartbeats 4000000 in
set_option maxRecDepth 100000 in
theorem Max_false (A B : ByteArray) (x y z r : Int) (w : World) (CB : BE A B x y z r true) (CC : OpL x y z r false) : Calls Tryz.prog 29 #[.string A, .string B] w (GivesY A w) := by
  replace CB := Lib.hid CB
  replace CC := Lib.hid CC
  go_enter Tryz.func29, Tryz.ntmps29
  have ST : St w w [] [] [] := St.zero
  replace ST := Lib.hid ST
  go_wp2_with fail
  refine Calls.mono (CB.out _) ?_
  rintro e w1 ⟨px, vx, py, vy, pz, vz, pr, vr, rfl, nx, ny, nz, nr, hb1⟩
  obtain ⟨kxs, hxs⟩ : ∃ sgn, sgn = decide (x < 0) := ⟨_, rfl⟩
  rw [← hxs]
  have ix := And.intro nx hxs
  obtain ⟨kxt, kxa, kxn, rfl, rfl, -, -, -, -, -, -⟩ := nx.form
  obtain ⟨kys, hys⟩ : ∃ sgn, sgn = decide (y < 0) := ⟨_, rfl⟩
  rw [← hys]
  have iy := And.intro ny hys
  obtain ⟨kyt, kya, kyn, rfl, rfl, -, -, -, -, -, -⟩ := ny.form
  obtain ⟨kzs, hzs⟩ : ∃ sgn, sgn = decide (z < 0) := ⟨_, rfl⟩
  rw [← hzs]
  have iz := And.intro nz hzs
  obtain ⟨kzt, kza, kzn, rfl, rfl, -, -, -, -, -, -⟩ := nz.form
  obtain ⟨krs, hrs⟩ : ∃ sgn, sgn = decide (r < 0) := ⟨_, rfl⟩
  rw [← hrs]
  have ir := And.intro nr hrs
  obtain ⟨krt, kra, krn, rfl, rfl, -, -, -, -, -, -⟩ := nr.form
  replace ST := Lib.hid (((((ST.out.call hb1).know ix).know iy).know iz).know ir)
  clear ix iy iz ir nx ny nz nr hxs hys hzs hrs hb1
  go_upto_region 2 with fail
  obtain ⟨W1, hW⟩ : ∃ W, W = (w1.alloc (.cells #[.int .u64 kxt, .slice kxa kxn kxn, .bool kxs, .int .u64 kyt, .slice kya kyn kyn, .bool kys] 76)).alloc (.cells #[.int .u64 kzt, .slice kza kzn kzn, .bool kzs, .int .u64 krt, .slice kra krn krn, .bool krs] 76) := ⟨_, rfl⟩
  rw [← hW]
  replace ST := (ST.out.allocV (.int .u64 kxt) (.slice kxa kxn kxn) kxs (.int .u64 kyt) (.slice kya kyn kyn) kys 76 w1.heap.size rfl).allocV (.int .u64 kzt) (.slice kza kzn kzn) kzs (.int .u64 krt) (.slice kra krn krn) krs 76 (w1.heap.size + 1) (by first | rfl | (simp; done) | (simp; omega))
  rw [← hW] at ST
  clear hW
  replace ST := Lib.hid ST
  obtain ⟨k1, hk⟩ : ∃ k, k = w1.heap.size := ⟨_, rfl⟩
  rw [← hk] at ST ⊢
  clear hk
  obtain ⟨c0, c1, c2, c3, c4, c5⟩ := ST.out.rat (k := k1) (by with_reducible ((repeat ((fail_if_success exact mem0); apply List.mem_cons_of_mem)); exact mem0))
  obtain ⟨d0, d1, d2, d3, d4, d5⟩ := ST.out.rat (k := k1 + 1) (by with_reducible ((repeat ((fail_if_success exact mem0); apply List.mem_cons_of_mem)); exact mem0))
  go_wp2_with fail
  refine St.arm (w := w) (by exact ST.out) (by intro H; with_reducible exact CC.out.run (H.int (by with_reducible ((repeat ((fail_if_success exact mem0); apply List.mem_cons_of_mem)); exact mem0))) (H.int (by with_reducible ((repeat ((fail_if_success exact mem0); apply List.mem_cons_of_mem)); exact mem0))) (H.int (by with_reducible ((repeat ((fail_if_success exact mem0); apply List.mem_cons_of_mem)); exact mem0))) (H.int (by with_reducible ((repeat ((fail_if_success exact mem0); apply List.mem_cons_of_mem)); exact mem0)))) ?_
  rintro e w2 ⟨⟨rfl, hb2⟩, H⟩
  replace ST := Lib.hid (H.call hb2)
  clear hb2 H c0 c1 c2 c3 c4 c5 d0 d1 d2 d3 d4 d5
  go_wp2
  go_ret
  exact ⟨rfl, ST.out.below⟩
end Go.Proofs.YtmoggebdfijopaaGreatDoor
