/-
  What Cmp, Min and Max return.
  What Add, Sub, Mul, Mid and Div return.
  What Make returns.
  Expansions and the simplest number between two: rational numbers and integers alone.
  The expansion of a rational number.
-/
import Derived.Test.YtkhebidmfjbhaaaGreatDoorZ31
import Derived.Deep.RegionHeld3
import Derived.Deep.Cut
import Derived.Test.YtkhebidmfjbhaaaGreatDoorZ03
import Derived.Test.YtkhebidmfjbhaaaGreatDoorZ13
namespace Go.Proofs.YtkhebidmfjbhaaaGreatDoor
open Go.RowKit

theorem St.allocV {w W : World} {R : List (Nat × Value × Value × Bool × Value × Value × Bool)} {Z : List (Nat × Value × Value × Bool)} {N : List (Value × Value × Bool × Int)} (h : St w W R Z N) (p v : Value) (b : Bool) (q u : Value) (c : Bool) (t : TypeId) (k : Nat) (hk : k = W.heap.size) :
    St w (W.alloc (.cells #[p, v, .bool b, q, u, .bool c] t)) ((k, p, v, b, q, u, c) :: R) Z N := h.allocR hk
theorem St.allocN {w W : World} {R : List (Nat × Value × Value × Bool × Value × Value × Bool)} {Z : List (Nat × Value × Value × Bool)} {N : List (Value × Value × Bool × Int)} (h : St w W R Z N) (p v : Value) (b : Bool) (t : TypeId) (k : Nat) (hk : k = W.heap.size) :
    St w (W.alloc (.cells #[p, v, .bool b] t)) R ((k, p, v, b) :: Z) N := h.alloc hk
theorem OpC.run {x y z r t : Int} {p v q u p' v' q' u' : Value} {b c b' c' : Bool} {W : World} (h : OpC x y z r t) (hx : IntV W p v b x) (hy : IntV W q u c y) (hz : IntV W p' v' b' z) (hr : IntV W q' u' c' r) : Calls Tryz.prog 86 #[.agg #[p, v, .bool b, q, u, .bool c], .agg #[p', v', .bool b', q', u', .bool c']] W (GivesI t W) := h p v b q u c p' v' b' q' u' c' W hx hy hz hr
/-- What less of two rational numbers answers. -/
def OpL (x y z r : Int) (t : Bool) : Prop := ∀ (p v : Value) (b : Bool) (q u : Value) (c : Bool) (p' v' : Value) (b' : Bool) (q' u' : Value) (c' : Bool) (W : World), IntV W p v b x → IntV W q u c y → IntV W p' v' b' z → IntV W q' u' c' r → Calls Tryz.prog 87 #[.agg #[p, v, .bool b, q, u, .bool c], .agg #[p', v', .bool b', q', u', .bool c']] W (GivesBo t W)
theorem OpL.run {x y z r : Int} {t : Bool} {p v q u p' v' q' u' : Value} {b c b' c' : Bool} {W : World} (h : OpL x y z r t) (hx : IntV W p v b x) (hy : IntV W q u c y) (hz : IntV W p' v' b' z) (hr : IntV W q' u' c' r) : Calls Tryz.prog 87 #[.agg #[p, v, .bool b, q, u, .bool c], .agg #[p', v', .bool b', q', u', .bool c']] W (GivesBo t W) := h p v b q u c p' v' b' q' u' c' W hx hy hz hr
theorem lessR_run {x y z r : Int} (hx9 : nl x.natAbs ≤ 20000) (hy9 : nl y.natAbs ≤ 20000) (hz9 : nl z.natAbs ≤ 20000) (hr9 : nl r.natAbs ≤ 20000) : OpL x y z r (decide (x * r < z * y)) := fun p v b q u c p' v' b' q' u' c' W h1 h2 h3 h4 => lessR_any p v b q u c p' v' b' q' u' c' x y z r W h1 h2 h3 h4 hx9 hy9 hz9 hr9
/-- What both answers for two texts. -/
def BE (A B : ByteArray) (x y z r : Int) (ok : Bool) : Prop := ∀ W, Calls Tryz.prog 85 #[.string A, .string B, .func (.func 82) #[] #[]] W (GivesB2 x y z r ok W)
def BP (A B : ByteArray) (x y z r : Int) (ok : Bool) : Prop := ∀ W, Calls Tryz.prog 85 #[.string A, .string B, .func (.func 79) #[] #[]] W (GivesB2 x y z r ok W)
theorem BE.ok {A B : ByteArray} {x y z r : Int} (a : PE A x y true) (b : PE B z r true) : BE A B x y z r true := fun W => both_okE A B x y z r W a b
theorem BP.ok {A B : ByteArray} {x y z r : Int} (a : PR A x y true) (b : PR B z r true) : BP A B x y z r true := fun W => both_ok A B x y z r W a b
set_option maxHeartbeats 4000000 in
set_option maxRecDepth 100000 in
theorem Cmp_of (A B : ByteArray) (x y z r : Int) (w : World) (t : Int) (CB : BE A B x y z r true) (CC : OpC x y z r t) : Calls Tryz.prog 25 #[.string A, .string B] w (GivesI t w) := by
  replace CB := Lib.hid CB
  replace CC := Lib.hid CC
  go_enter Tryz.func25, Tryz.ntmps25
  have ST : St w w [] [] [] := St.zero
  replace ST := Lib.hid ST
  go_wp2_with fail
  refine Calls.mono (CB.out _) ?_
  rintro e w1 ⟨px, vx, py, vy, pz, vz, pr, vr, rfl, nx, ny, nz, nr, hb1⟩
  obtain ⟨kxs, hxs⟩ : ∃ sgn, sgn = decide (x < 0) := ⟨_, rfl⟩
  rw [← hxs]
  have ix := And.intro nx hxs
  obtain ⟨kxt, kxa, kxn, rfl, rfl, -, -, -, -, -, -⟩ := nx.form
  obtain ⟨kys, hys⟩ : ∃ sgn, sgn = decide (y < 0) := ⟨_, rfl⟩
  rw [← hys]
  have iy := And.intro ny hys
  obtain ⟨kyt, kya, kyn, rfl, rfl, -, -, -, -, -, -⟩ := ny.form
  obtain ⟨kzs, hzs⟩ : ∃ sgn, sgn = decide (z < 0) := ⟨_, rfl⟩
  rw [← hzs]
  have iz := And.intro nz hzs
  obtain ⟨kzt, kza, kzn, rfl, rfl, -, -, -, -, -, -⟩ := nz.form
  obtain ⟨krs, hrs⟩ : ∃ sgn, sgn = decide (r < 0) := ⟨_, rfl⟩
  rw [← hrs]
  have ir := And.intro nr hrs
  obtain ⟨krt, kra, krn, rfl, rfl, -, -, -, -, -, -⟩ := nr.form
  replace ST := Lib.hid (((((ST.out.call hb1).know ix).know iy).know iz).know ir)
  clear ix iy iz ir nx ny nz nr hxs hys hzs hrs hb1
  go_upto_region 2 with fail
  obtain ⟨W1, hW⟩ : ∃ W, W = (w1.alloc (.cells #[.int .u64 kxt, .slice kxa kxn kxn, .bool kxs, .int .u64 kyt, .slice kya kyn kyn, .bool kys] 76)).alloc (.cells #[.int .u64 kzt, .slice kza kzn kzn, .bool kzs, .int .u64 krt, .slice kra krn krn, .bool krs] 76) := ⟨_, rfl⟩
  rw [← hW]
  replace ST := (ST.out.allocV (.int .u64 kxt) (.slice kxa kxn kxn) kxs (.int .u64 kyt) (.slice kya kyn kyn) kys 76 w1.heap.size rfl).allocV (.int .u64 kzt) (.slice kza kzn kzn) kzs (.int .u64 krt) (.slice kra krn krn) krs 76 (w1.heap.size + 1) (by first | rfl | (simp; done) | (simp; omega))
  rw [← hW] at ST
  clear hW
  replace ST := Lib.hid ST
  obtain ⟨k1, hk⟩ : ∃ k, k = w1.heap.size := ⟨_, rfl⟩
  rw [← hk] at ST ⊢
  clear hk
  obtain ⟨c0, c1, c2, c3, c4, c5⟩ := ST.out.rat (k := k1) (by with_reducible ((repeat ((fail_if_success exact mem0); apply List.mem_cons_of_mem)); exact mem0))
  obtain ⟨d0, d1, d2, d3, d4, d5⟩ := ST.out.rat (k := k1 + 1) (by with_reducible ((repeat ((fail_if_success exact mem0); apply List.mem_cons_of_mem)); exact mem0))
  go_wp2_with fail
  refine St.arm (w := w) (by exact ST.out) (by intro H; with_reducible exact CC.out.run (H.int (by with_reducible ((repeat ((fail_if_success exact mem0); apply List.mem_cons_of_mem)); exact mem0))) (H.int (by with_reducible ((repeat ((fail_if_success exact mem0); apply List.mem_cons_of_mem)); exact mem0))) (H.int (by with_reducible ((repeat ((fail_if_success exact mem0); apply List.mem_cons_of_mem)); exact mem0))) (H.int (by with_reducible ((repeat ((fail_if_success exact mem0); apply List.mem_cons_of_mem)); exact mem0)))) ?_
  rintro e w2 ⟨⟨rfl, hb2⟩, H⟩
  replace ST := Lib.hid (H.call hb2)
  clear hb2 H c0 c1 c2 c3 c4 c5 d0 d1 d2 d3 d4 d5
  go_wp2
  go_ret
  exact ⟨rfl, ST.out.below⟩
set_option maxHeartbeats 4000000 in
set_option maxRecDepth 100000 in
theorem Max_true (A B : ByteArray) (x y z r : Int) (w : World) (CB : BE A B x y z r true) (CC : OpL x y z r true) : Calls Tryz.prog 29 #[.string A, .string B] w (GivesY B w) := by
  replace CB := Lib.hid CB
  replace CC := Lib.hid CC
  go_enter Tryz.func29, Tryz.ntmps29
  have ST : St w w [] [] [] := St.zero
  replace ST := Lib.hid ST
  go_wp2_with fail
  refine Calls.mono (CB.out _) ?_
  rintro e w1 ⟨px, vx, py, vy, pz, vz, pr, vr, rfl, nx, ny, nz, nr, hb1⟩
  obtain ⟨kxs, hxs⟩ : ∃ sgn, sgn = decide (x < 0) := ⟨_, rfl⟩
  rw [← hxs]
  have ix := And.intro nx hxs
  obtain ⟨kxt, kxa, kxn, rfl, rfl, -, -, -, -, -, -⟩ := nx.form
  obtain ⟨kys, hys⟩ : ∃ sgn, sgn = decide (y < 0) := ⟨_, rfl⟩
  rw [← hys]
  have iy := And.intro ny hys
  obtain ⟨kyt, kya, kyn, rfl, rfl, -, -, -, -, -, -⟩ := ny.form
  obtain ⟨kzs, hzs⟩ : ∃ sgn, sgn = decide (z < 0) := ⟨_, rfl⟩
  rw [← hzs]
  have iz := And.intro nz hzs
  obtain ⟨kzt, kza, kzn, rfl, rfl, -, -, -, -, -, -⟩ := nz.form
  obtain ⟨krs, hrs⟩ : ∃ sgn, sgn = decide (r < 0) := ⟨_, rfl⟩
  rw [← hrs]
  have ir := And.intro nr hrs
  obtain ⟨krt, kra, krn, rfl, rfl, -, -, -, -, -, -⟩ := nr.form
  replace ST := Lib.hid (((((ST.out.call hb1).know ix).know iy).know iz).know ir)
  clear ix iy iz ir nx ny nz nr hxs hys hzs hrs hb1
  go_upto_region 2 with fail
  obtain ⟨W1, hW⟩ : ∃ W, W = (w1.alloc (.cells #[.int .u64 kxt, .slice kxa kxn kxn, .bool kxs, .int .u64 kyt, .slice kya kyn kyn, .bool kys] 76)).alloc (.cells #[.int .u64 kzt, .slice kza kzn kzn, .bool kzs, .int .u64 krt, .slice kra krn krn, .bool krs] 76) := ⟨_, rfl⟩
  rw [← hW]
  replace ST := (ST.out.allocV (.int .u64 kxt) (.slice kxa kxn kxn) kxs (.int .u64 kyt) (.slice kya kyn kyn) kys 76 w1.heap.size rfl).allocV (.int .u64 kzt) (.slice kza kzn kzn) kzs (.int .u64 krt) (.slice kra krn krn) krs 76 (w1.heap.size + 1) (by first | rfl | (simp; done) | (simp; omega))
  rw [← hW] at ST
  clear hW
  replace ST := Lib.hid ST
  obtain ⟨k1, hk⟩ : ∃ k, k = w1.heap.size := ⟨_, rfl⟩
  rw [← hk] at ST ⊢
  clear hk
  obtain ⟨c0, c1, c2, c3, c4, c5⟩ := ST.out.rat (k := k1) (by with_reducible ((repeat ((fail_if_success exact mem0); apply List.mem_cons_of_mem)); exact mem0))
  obtain ⟨d0, d1, d2, d3, d4, d5⟩ := ST.out.rat (k := k1 + 1) (by with_reducible ((repeat ((fail_if_success exact mem0); apply List.mem_cons_of_mem)); exact mem0))
  go_wp2_with fail
  refine St.arm (w := w) (by exact ST.out) (by intro H; with_reducible exact CC.out.run (H.int (by with_reducible ((repeat ((fail_if_success exact mem0); apply List.mem_cons_of_mem)); exact mem0))) (H.int (by with_reducible ((repeat ((fail_if_success exact mem0); apply List.mem_cons_of_mem)); exact mem0))) (H.int (by with_reducible ((repeat ((fail_if_success exact mem0); apply List.mem_cons_of_mem)); exact mem0))) (H.int (by with_reducible ((repeat ((fail_if_success exact mem0); apply List.mem_cons_of_mem)); exact mem0)))) ?_
  rintro e w2 ⟨⟨rfl, hb2⟩, H⟩
  replace ST := Lib.hid (H.call hb2)
  clear hb2 H c0 c1 c2 c3 c4 c5 d0 d1 d2 d3 d4 d5
  go_wp2
  go_ret
  exact ⟨rfl, ST.out.below⟩
set_option maxHeartbeats 4000000 in
set_option maxRecDepth 100000 in
theorem Max_false (A B : ByteArray) (x y z r : Int) (w : World) (CB : BE A B x y z r true) (CC : OpL x y z r false) : Calls Tryz.prog 29 #[.string A, .string B] w (GivesY A w) := by
  replace CB := Lib.hid CB
  replace CC := Lib.hid CC
  go_enter Tryz.func29, Tryz.ntmps29
  have ST : St w w [] [] [] := St.zero
  replace ST := Lib.hid ST
  go_wp2_with fail
  refine Calls.mono (CB.out _) ?_
  rintro e w1 ⟨px, vx, py, vy, pz, vz, pr, vr, rfl, nx, ny, nz, nr, hb1⟩
  obtain ⟨kxs, hxs⟩ : ∃ sgn, sgn = decide (x < 0) := ⟨_, rfl⟩
  rw [← hxs]
  have ix := And.intro nx hxs
  obtain ⟨kxt, kxa, kxn, rfl, rfl, -, -, -, -, -, -⟩ := nx.form
  obtain ⟨kys, hys⟩ : ∃ sgn, sgn = decide (y < 0) := ⟨_, rfl⟩
  rw [← hys]
  have iy := And.intro ny hys
  obtain ⟨kyt, kya, kyn, rfl, rfl, -, -, -, -, -, -⟩ := ny.form
  obtain ⟨kzs, hzs⟩ : ∃ sgn, sgn = decide (z < 0) := ⟨_, rfl⟩
  rw [← hzs]
  have iz := And.intro nz hzs
  obtain ⟨kzt, kza, kzn, rfl, rfl, -, -, -, -, -, -⟩ := nz.form
  obtain ⟨krs, hrs⟩ : ∃ sgn, sgn = decide (r < 0) := ⟨_, rfl⟩
  rw [← hrs]
  have ir := And.intro nr hrs
  obtain ⟨krt, kra, krn, rfl, rfl, -, -, -, -, -, -⟩ := nr.form
  replace ST := Lib.hid (((((ST.out.call hb1).know ix).know iy).know iz).know ir)
  clear ix iy iz ir nx ny nz nr hxs hys hzs hrs hb1
  go_upto_region 2 with fail
  obtain ⟨W1, hW⟩ : ∃ W, W = (w1.alloc (.cells #[.int .u64 kxt, .slice kxa kxn kxn, .bool kxs, .int .u64 kyt, .slice kya kyn kyn, .bool kys] 76)).alloc (.cells #[.int .u64 kzt, .slice kza kzn kzn, .bool kzs, .int .u64 krt, .slice kra krn krn, .bool krs] 76) := ⟨_, rfl⟩
  rw [← hW]
  replace ST := (ST.out.allocV (.int .u64 kxt) (.slice kxa kxn kxn) kxs (.int .u64 kyt) (.slice kya kyn kyn) kys 76 w1.heap.size rfl).allocV (.int .u64 kzt) (.slice kza kzn kzn) kzs (.int .u64 krt) (.slice kra krn krn) krs 76 (w1.heap.size + 1) (by first | rfl | (simp; done) | (simp; omega))
  rw [← hW] at ST
  clear hW
  replace ST := Lib.hid ST
  obtain ⟨k1, hk⟩ : ∃ k, k = w1.heap.size := ⟨_, rfl⟩
  rw [← hk] at ST ⊢
  clear hk
  obtain ⟨c0, c1, c2, c3, c4, c5⟩ := ST.out.rat (k := k1) (by with_reducible ((repeat ((fail_if_success exact mem0); apply List.mem_cons_of_mem)); exact mem0))
  obtain ⟨d0, d1, d2, d3, d4, d5⟩ := ST.out.rat (k := k1 + 1) (by with_reducible ((repeat ((fail_if_success exact mem0); apply List.mem_cons_of_mem)); exact mem0))
  go_wp2_with fail
  refine St.arm (w := w) (by exact ST.out) (by intro H; with_reducible exact CC.out.run (H.int (by with_reducible ((repeat ((fail_if_success exact mem0); apply List.mem_cons_of_mem)); exact mem0))) (H.int (by with_reducible ((repeat ((fail_if_success exact mem0); apply List.mem_cons_of_mem)); exact mem0))) (H.int (by with_reducible ((repeat ((fail_if_success exact mem0); apply List.mem_cons_of_mem)); exact mem0))) (H.int (by with_reducible ((repeat ((fail_if_success exact mem0); apply List.mem_cons_of_mem)); exact mem0)))) ?_
  rintro e w2 ⟨⟨rfl, hb2⟩, H⟩
  replace ST := Lib.hid (H.call hb2)
  clear hb2 H c0 c1 c2 c3 c4 c5 d0 d1 d2 d3 d4 d5
  go_wp2
  go_ret
  exact ⟨rfl, ST.out.below⟩
end Go.Proofs.YtkhebidmfjbhaaaGreatDoor
namespace Go.Proofs.YtkhebidmfjbhaaaGreatDoor
open Go.RowKit

set_option maxHeartbeats 4000000 in
set_option maxRecDepth 100000 in
theorem combine_plus (A B : ByteArray) (x y z r : Int) (w : World) (Q : Rat) (tb : Tb w) (CB : BP A B x y z r true) (CC : OpR2 94 x y z r Q.num Q.den) : Calls Tryz.prog 93 #[.string A, .string B, .func (.func 94) #[] #[]] w (GivesQx Q w) := by
  replace CB := Lib.hid CB
  replace CC := Lib.hid CC
  have TB := Lib.hid tb
  clear tb
  go_enter Tryz.func93, Tryz.ntmps93
  have ST : St w w [] [] [] := St.zero
  replace ST := Lib.hid ST
  go_wp2_with fail
  refine Calls.mono (CB.out _) ?_
  rintro e w1 ⟨px, vx, py, vy, pz, vz, pr, vr, rfl, nx, ny, nz, nr, hb1⟩
  obtain ⟨kxs, hxs⟩ : ∃ sgn, sgn = decide (x < 0) := ⟨_, rfl⟩
  rw [← hxs]
  have ix := And.intro nx hxs
  obtain ⟨kxt, kxa, kxn, rfl, rfl, -, -, -, -, -, -⟩ := nx.form
  obtain ⟨kys, hys⟩ : ∃ sgn, sgn = decide (y < 0) := ⟨_, rfl⟩
  rw [← hys]
  have iy := And.intro ny hys
  obtain ⟨kyt, kya, kyn, rfl, rfl, -, -, -, -, -, -⟩ := ny.form
  obtain ⟨kzs, hzs⟩ : ∃ sgn, sgn = decide (z < 0) := ⟨_, rfl⟩
  rw [← hzs]
  have iz := And.intro nz hzs
  obtain ⟨kzt, kza, kzn, rfl, rfl, -, -, -, -, -, -⟩ := nz.form
  obtain ⟨krs, hrs⟩ : ∃ sgn, sgn = decide (r < 0) := ⟨_, rfl⟩
  rw [← hrs]
  have ir := And.intro nr hrs
  obtain ⟨krt, kra, krn, rfl, rfl, -, -, -, -, -, -⟩ := nr.form
  replace ST := Lib.hid (((((ST.out.call hb1).know ix).know iy).know iz).know ir)
  clear ix iy iz ir nx ny nz nr hxs hys hzs hrs hb1
  go_upto_region 2 with fail
  obtain ⟨W1, hW⟩ : ∃ W, W = (w1.alloc (.cells #[.int .u64 kxt, .slice kxa kxn kxn, .bool kxs, .int .u64 kyt, .slice kya kyn kyn, .bool kys] 76)).alloc (.cells #[.int .u64 kzt, .slice kza kzn kzn, .bool kzs, .int .u64 krt, .slice kra krn krn, .bool krs] 76) := ⟨_, rfl⟩
  rw [← hW]
  replace ST := (ST.out.allocV (.int .u64 kxt) (.slice kxa kxn kxn) kxs (.int .u64 kyt) (.slice kya kyn kyn) kys 76 w1.heap.size rfl).allocV (.int .u64 kzt) (.slice kza kzn kzn) kzs (.int .u64 krt) (.slice kra krn krn) krs 76 (w1.heap.size + 1) (by first | rfl | (simp; done) | (simp; omega))
  rw [← hW] at ST
  clear hW
  replace ST := Lib.hid ST
  obtain ⟨k1, hk⟩ : ∃ k, k = w1.heap.size := ⟨_, rfl⟩
  rw [← hk] at ST ⊢
  clear hk
  obtain ⟨c0, c1, c2, c3, c4, c5⟩ := ST.out.rat (k := k1) (by with_reducible ((repeat ((fail_if_success exact mem0); apply List.mem_cons_of_mem)); exact mem0))
  obtain ⟨d0, d1, d2, d3, d4, d5⟩ := ST.out.rat (k := k1 + 1) (by with_reducible ((repeat ((fail_if_success exact mem0); apply List.mem_cons_of_mem)); exact mem0))
  go_wp2_with fail
  refine St.arm (w := w) (by exact ST.out) (by intro H; with_reducible exact CC.out.run (H.int (by with_reducible ((repeat ((fail_if_success exact mem0); apply List.mem_cons_of_mem)); exact mem0))) (H.int (by with_reducible ((repeat ((fail_if_success exact mem0); apply List.mem_cons_of_mem)); exact mem0))) (H.int (by with_reducible ((repeat ((fail_if_success exact mem0); apply List.mem_cons_of_mem)); exact mem0))) (H.int (by with_reducible ((repeat ((fail_if_success exact mem0); apply List.mem_cons_of_mem)); exact mem0)))) ?_
  rintro e w4 ⟨⟨p4, v4, o4, u4, rfl, hv4, hu4, hb4⟩, H⟩
  obtain ⟨r4s, hs4⟩ : ∃ sgn, sgn = decide (Q.num < 0) := ⟨_, rfl⟩
  obtain ⟨q4s, ht4⟩ : ∃ sgn, sgn = decide ((Q.den : Int) < 0) := ⟨_, rfl⟩
  rw [← hs4, ← ht4]
  have hi := And.intro hv4 hs4
  have hj := And.intro hu4 ht4
  obtain ⟨r4t, r4a, r4n, rfl, rfl, -, -, -, -, -, -⟩ := hv4.form
  obtain ⟨q4t, q4a, q4n, rfl, rfl, -, -, -, -, -, -⟩ := hu4.form
  replace ST := Lib.hid (((H.call hb4).know hj).know hi)
  clear hi hj hv4 hu4 hb4 hs4 ht4
  clear H c0 c1 c2 c3 c4 c5 d0 d1 d2 d3 d4 d5
  go_wp2_with fail
  refine Calls.mono (ratext_any _ _ _ _ _ _ Q _ (TB.out.below ST.out.below) (ST.out.int (by with_reducible ((repeat ((fail_if_success exact mem0); apply List.mem_cons_of_mem)); exact mem0))) (ST.out.int (by with_reducible ((repeat ((fail_if_success exact mem0); apply List.mem_cons_of_mem)); exact mem0)))) ?_
  rintro e w5 ⟨rfl, hb5⟩
  obtain ⟨T, hT⟩ : ∃ T, T = (if dn Q.num ≤ 1000 ∧ dn Q.den ≤ 1000 then qx Q else ⟨#[]⟩) := ⟨_, rfl⟩
  obtain ⟨E, hE⟩ : ∃ E : Int, E = (if dn Q.num ≤ 1000 ∧ dn Q.den ≤ 1000 then 0 else 3) := ⟨_, rfl⟩
  rw [← hT, ← hE]
  have HT := Lib.hid hT
  have HE := Lib.hid hE
  replace ST := Lib.hid (ST.out.call hb5)
  clear hT hE hb5
  go_wp2
  go_ret2
  exact ⟨by rw [← HT.out, ← HE.out]; rfl, ST.out.below⟩
theorem Add_of (A B : ByteArray) (x y z r : Int) (w : World) (Q : Rat) (tb : Tb w) (CB : BP A B x y z r true) (CC : OpR2 94 x y z r Q.num Q.den) : Calls Tryz.prog 37 #[.string A, .string B] w (GivesQx Q w) := by
  have CO := Lib.hid (combine_plus A B x y z r w Q tb CB CC)
  clear CB CC tb
  go_enter Tryz.func37, Tryz.ntmps37
  have ST : St w w [] [] [] := St.zero
  replace ST := Lib.hid ST
  go_wp2_with fail
  refine CO.out.mono ?_
  rintro e w5 ⟨rfl, hb5⟩
  obtain ⟨T, hT⟩ : ∃ T, T = (if dn Q.num ≤ 1000 ∧ dn Q.den ≤ 1000 then qx Q else ⟨#[]⟩) := ⟨_, rfl⟩
  obtain ⟨E, hE⟩ : ∃ E : Int, E = (if dn Q.num ≤ 1000 ∧ dn Q.den ≤ 1000 then 0 else 3) := ⟨_, rfl⟩
  rw [← hT, ← hE]
  have HT := Lib.hid hT
  have HE := Lib.hid hE
  replace ST := Lib.hid (ST.out.call hb5)
  clear hT hE hb5
  go_wp2
  go_ret2
  exact ⟨by rw [← HT.out, ← HE.out]; rfl, ST.out.below⟩
theorem zero_not {z : Int} (h : z ≠ 0) {p v : Value} {b : Bool} {W : World} (hx : IntV W p v b z) : Calls Tryz.prog 101 #[.agg #[p, v]] W (GivesBo false W) := by
  refine (isZero_false p v z.natAbs W hx.1 (by omega)).mono ?_
  rintro e w' ⟨rfl, rfl⟩
  exact ⟨rfl, ((Below.refl _ _).alloc (Nat.le_refl _) _).alloc (by simp) _⟩
theorem zero_yes {z : Int} (h : z = 0) {p v : Value} {b : Bool} {W : World} (hx : IntV W p v b z) : Calls Tryz.prog 101 #[.agg #[p, v]] W (GivesBo true W) := by
  subst h
  refine (isZero_true p v W hx.1).mono ?_
  rintro e w' ⟨rfl, rfl⟩
  exact ⟨rfl, ((Below.refl _ _).alloc (Nat.le_refl _) _).alloc (by simp) _⟩
set_option maxHeartbeats 4000000 in
set_option maxRecDepth 100000 in
theorem Div_zero (A B : ByteArray) (x y z r : Int) (w : World) (CB : BP A B x y z r true) (h0 : z = 0) : Calls Tryz.prog 43 #[.string A, .string B] w (GivesSn ⟨#[]⟩ 9 w) := by
  replace CB := Lib.hid CB
  have ZD := Lib.hid h0
  clear h0
  go_enter Tryz.func43, Tryz.ntmps43
  have ST : St w w [] [] [] := St.zero
  replace ST := Lib.hid ST
  go_wp2_with fail
  refine Calls.mono (CB.out _) ?_
  rintro e w1 ⟨px, vx, py, vy, pz, vz, pr, vr, rfl, nx, ny, nz, nr, hb1⟩
  obtain ⟨kxs, hxs⟩ : ∃ sgn, sgn = decide (x < 0) := ⟨_, rfl⟩
  rw [← hxs]
  have ix := And.intro nx hxs
  obtain ⟨kxt, kxa, kxn, rfl, rfl, -, -, -, -, -, -⟩ := nx.form
  obtain ⟨kys, hys⟩ : ∃ sgn, sgn = decide (y < 0) := ⟨_, rfl⟩
  rw [← hys]
  have iy := And.intro ny hys
  obtain ⟨kyt, kya, kyn, rfl, rfl, -, -, -, -, -, -⟩ := ny.form
  obtain ⟨kzs, hzs⟩ : ∃ sgn, sgn = decide (z < 0) := ⟨_, rfl⟩
  rw [← hzs]
  have iz := And.intro nz hzs
  obtain ⟨kzt, kza, kzn, rfl, rfl, -, -, -, -, -, -⟩ := nz.form
  obtain ⟨krs, hrs⟩ : ∃ sgn, sgn = decide (r < 0) := ⟨_, rfl⟩
  rw [← hrs]
  have ir := And.intro nr hrs
  obtain ⟨krt, kra, krn, rfl, rfl, -, -, -, -, -, -⟩ := nr.form
  replace ST := Lib.hid (((((ST.out.call hb1).know ix).know iy).know iz).know ir)
  clear ix iy iz ir nx ny nz nr hxs hys hzs hrs hb1
  go_upto_region 2 with fail
  obtain ⟨W1, hW⟩ : ∃ W, W = (w1.alloc (.cells #[.int .u64 kxt, .slice kxa kxn kxn, .bool kxs, .int .u64 kyt, .slice kya kyn kyn, .bool kys] 76)).alloc (.cells #[.int .u64 kzt, .slice kza kzn kzn, .bool kzs, .int .u64 krt, .slice kra krn krn, .bool krs] 76) := ⟨_, rfl⟩
  rw [← hW]
  replace ST := (ST.out.allocV (.int .u64 kxt) (.slice kxa kxn kxn) kxs (.int .u64 kyt) (.slice kya kyn kyn) kys 76 w1.heap.size rfl).allocV (.int .u64 kzt) (.slice kza kzn kzn) kzs (.int .u64 krt) (.slice kra krn krn) krs 76 (w1.heap.size + 1) (by first | rfl | (simp; done) | (simp; omega))
  rw [← hW] at ST
  clear hW
  replace ST := Lib.hid ST
  obtain ⟨k1, hk⟩ : ∃ k, k = w1.heap.size := ⟨_, rfl⟩
  rw [← hk] at ST ⊢
  clear hk
  obtain ⟨d0, d1, d2, d3, d4, d5⟩ := ST.out.rat (k := k1 + 1) (by with_reducible ((repeat ((fail_if_success exact mem0); apply List.mem_cons_of_mem)); exact mem0))
  go_wp2_with fail
  refine St.arm (w := w) (by exact ST.out) (by intro H; exact zero_yes ZD.out (H.int (x := z) (by with_reducible ((repeat ((fail_if_success exact mem0); apply List.mem_cons_of_mem)); exact mem0)))) ?_
  rintro e w3 ⟨⟨rfl, hb3⟩, H⟩
  replace ST := Lib.hid (H.call hb3)
  clear d0 d1 d2 d3 d4 d5 hb3 H
  go_wp2
  go_ret2
  exact ⟨rfl, ST.out.below⟩
end Go.Proofs.YtkhebidmfjbhaaaGreatDoor
namespace Go.Proofs.YtkhebidmfjbhaaaGreatDoor
open Go.RowKit

end Go.Proofs.YtkhebidmfjbhaaaGreatDoor
namespace Go.Proofs.YtkhebidmfjbhaaaGreatDoor

theorem inv_pos' {v : Rat} (h : 0 < v) : 0 < v⁻¹ := Rat.inv_pos.2 h
/-- The value of an expansion. -/
def cfv : List Int → Rat
  | [] => 0
  | c :: l => (c : Rat) + (cfv l)⁻¹
theorem cfv_one (c : Int) : cfv [c] = c := by
  unfold cfv cfv
  rw [Rat.inv_zero, Rat.add_zero]
theorem int_le_rat {a b : Int} (h : a ≤ b) : (a : Rat) ≤ b := Rat.intCast_le_intCast.2 h
theorem cfv_pos : ∀ {l : List Int}, l ≠ [] → (∀ c, c ∈ l → 1 ≤ c) → 1 ≤ cfv l
  | [], h, _ => absurd rfl h
  | c :: l, _, hp => by
    have h1 : (1 : Rat) ≤ c := by
      have := int_le_rat (hp c List.mem_cons_self)
      simpa using this
    unfold cfv
    have h2 : 0 ≤ (cfv l)⁻¹ := by
      cases l with
      | nil => unfold cfv; rw [Rat.inv_zero]; exact Rat.le_refl
      | cons d l =>
        have h3 := cfv_pos (l := d :: l) (by simp) (fun c hc => hp c (List.mem_cons_of_mem _ hc))
        exact Rat.le_of_lt (inv_pos' (by grind))
    grind
/-- A step of the convergents. -/
def cstep (s : Int × Int × Int × Int) (c : Int) : Int × Int × Int × Int := (c * s.1 + s.2.2.1, c * s.2.1 + s.2.2.2, s.1, s.2.1)
def cvs (s : Int × Int × Int × Int) (l : List Int) : Int × Int × Int × Int := l.foldl cstep s
theorem cvs_val : ∀ (l : List Int) (s : Int × Int × Int × Int), l ≠ [] → (∀ c, c ∈ l.tail → 1 ≤ c) →
    ((cvs s l).1 : Rat) * (cfv l * s.2.1 + s.2.2.2) = ((cvs s l).2.1 : Rat) * (cfv l * s.1 + s.2.2.1)
  | [], _, h, _ => absurd rfl h
  | [c], s, _, _ => by
    obtain ⟨xn, xd, bn, bd⟩ := s
    rw [cfv_one]
    show ((c * xn + bn : Int) : Rat) * _ = ((c * xd + bd : Int) : Rat) * _
    simp only [Rat.intCast_add, Rat.intCast_mul]
    grind
  | c :: d :: l, s, _, hp => by
    have hv := cfv_pos (l := d :: l) (by simp) hp
    have ih := cvs_val (d :: l) (cstep s c) (by simp) (fun x hx => hp x (List.mem_cons_of_mem _ hx))
    obtain ⟨xn, xd, bn, bd⟩ := s
    have e : cvs (xn, xd, bn, bd) (c :: d :: l) = cvs (cstep (xn, xd, bn, bd) c) (d :: l) := rfl
    rw [e, show cfv (c :: d :: l) = (c : Rat) + (cfv (d :: l))⁻¹ from rfl]
    generalize cfv (d :: l) = v at *
    generalize cvs (cstep (xn, xd, bn, bd) c) (d :: l) = t at *
    simp only [cstep, Rat.intCast_add, Rat.intCast_mul] at ih ⊢
    have h0 : v ≠ 0 := by intro h; rw [h] at hv; exact absurd hv (by decide)
    generalize (t.fst : Rat) = X at *
    generalize (t.snd.fst : Rat) = Y at *
    generalize (c : Rat) = c' at *
    generalize (xn : Rat) = a1 at *
    generalize (xd : Rat) = a2 at *
    generalize (bn : Rat) = a3 at *
    generalize (bd : Rat) = a4 at *
    clear e hp hv
    grind
/-- What the convergents keep. -/
structure Cv (s : Int × Int × Int × Int) : Prop where
  det : s.1 * s.2.2.2 - s.2.2.1 * s.2.1 = 1 ∨ s.1 * s.2.2.2 - s.2.2.1 * s.2.1 = -1
  pos : 0 ≤ s.2.1 ∧ 0 ≤ s.2.2.2
theorem Cv.start : Cv (1, 0, 0, 1) := ⟨.inl rfl, by decide, by decide⟩
theorem cstep_det (s : Int × Int × Int × Int) (c : Int) : (cstep s c).1 * (cstep s c).2.2.2 - (cstep s c).2.2.1 * (cstep s c).2.1 = -(s.1 * s.2.2.2 - s.2.2.1 * s.2.1) := by
  obtain ⟨xn, xd, bn, bd⟩ := s
  simp only [cstep]
  grind
theorem Cv.step {s : Int × Int × Int × Int} (h : Cv s) {c : Int} (hc : 0 ≤ c * s.2.1 + s.2.2.2) : Cv (cstep s c) := by
  refine ⟨?_, hc, h.pos.1⟩
  rw [cstep_det]
  rcases h.det with e | e <;> rw [e]
  · exact .inr rfl
  · exact .inl (by decide)
theorem Cv.gcd {s : Int × Int × Int × Int} (h : Cv s) : Int.gcd s.1 s.2.1 = 1 := by
  obtain ⟨xn, xd, bn, bd⟩ := s
  have h1 := Int.gcd_dvd_left xn xd
  have h2 := Int.gcd_dvd_right xn xd
  have h3 : (Int.gcd xn xd : Int) ∣ xn * bd - bn * xd := Int.dvd_sub (Int.dvd_mul_of_dvd_left h1) (Int.dvd_mul_of_dvd_right h2)
  have hd := h.det
  simp only at hd h3
  have h4 : (Int.gcd xn xd : Int) ∣ 1 := by
    rcases hd with e | e <;> rw [e] at h3
    · exact h3
    · exact Int.dvd_neg.1 h3
  have h5 := Int.le_of_dvd (by decide) h4
  have h6 : Int.gcd xn xd ≠ 0 := by
    intro e
    rw [e] at h4
    have := Int.zero_dvd.1 h4
    omega
  show Int.gcd xn xd = 1
  omega
/-- The denominators do not decrease. -/
theorem cvs_mono : ∀ (l : List Int) (s : Int × Int × Int × Int), Cv s → (∀ c, c ∈ l → 1 ≤ c) → Cv (cvs s l) ∧ s.2.1 ≤ (cvs s l).2.1
  | [], s, h, _ => ⟨h, Int.le_refl _⟩
  | c :: l, s, h, hp => by
    have hc := hp c List.mem_cons_self
    have h1 : s.2.1 ≤ c * s.2.1 := by
      have := Int.mul_le_mul_of_nonneg_right hc h.pos.1
      omega
    have h2 := h.pos
    obtain ⟨h3, h4⟩ := cvs_mono l (cstep s c) (h.step (by omega)) (fun x hx => hp x (List.mem_cons_of_mem _ hx))
    refine ⟨h3, Int.le_trans ?_ h4⟩
    show s.2.1 ≤ c * s.2.1 + s.2.2.2
    omega
theorem cvs_start {c : Int} {l : List Int} (hp : ∀ c, c ∈ l → 1 ≤ c) : Cv (cvs (1, 0, 0, 1) (c :: l)) ∧ 1 ≤ (cvs (1, 0, 0, 1) (c :: l)).2.1 := by
  have h := cvs_mono l (cstep (1, 0, 0, 1) c) (Cv.start.step (by simp)) hp
  refine ⟨h.1, ?_⟩
  have h2 := h.2
  simp only [cstep] at h2
  show 1 ≤ (cvs (cstep (1, 0, 0, 1) c) l).2.1
  simp only [cstep]
  omega
theorem rat_of {n d : Int} {v : Rat} (hd : 0 < d) (hg : Int.gcd n d = 1) (h : (n : Rat) = d * v) : v.num = n ∧ (v.den : Int) = d := by
  have hd0 : (d : Rat) ≠ 0 := by
    intro e
    have := Rat.intCast_inj.1 (e.trans (show (0 : Rat) = ((0 : Int) : Rat) by simp))
    omega
  have e1 : v = Rat.divInt n d := by
    rw [Rat.divInt_eq_div]
    grind
  rw [e1, Rat.num_divInt, Rat.den_divInt, if_neg (by omega), Int.gcd_comm, hg, Int.sign_eq_one_of_pos hd]
  refine ⟨by simp, ?_⟩
  rw [Nat.div_one]
  omega
theorem cfv_cvs {c : Int} {l : List Int} (hp : ∀ c, c ∈ l → 1 ≤ c) : (cfv (c :: l)).num = (cvs (1, 0, 0, 1) (c :: l)).1 ∧ ((cfv (c :: l)).den : Int) = (cvs (1, 0, 0, 1) (c :: l)).2.1 := by
  obtain ⟨h1, h2⟩ := cvs_start (c := c) hp
  refine rat_of (by omega) h1.gcd ?_
  have h3 := cvs_val (c :: l) (1, 0, 0, 1) (by simp) hp
  simp only at h3
  have e0 : (((0 : Int) : Rat)) = 0 := by simp
  have e1 : (((1 : Int) : Rat)) = 1 := by simp
  rw [e0, e1] at h3
  grind
/-- The steps of simplest: the terms for the interval from n/d to m/k. -/
def sterms : Nat → Int → Int → Int → Int → List Int
  | 0, _, _, _, _ => []
  | f + 1, n, d, m, k =>
    if m < (if n.fmod d = 0 then n.fdiv d else n.fdiv d + 1) * k then n.fdiv d :: sterms f k (m - n.fdiv d * k) d (n.fmod d)
    else [if n.fmod d = 0 then n.fdiv d else n.fdiv d + 1]
/-- The interval from n/d to m/k, of positive numbers, is not empty; m/k may be inf. -/
structure Iv (n d m k : Int) : Prop where
  n0 : 0 < n
  d0 : 0 < d
  m0 : 0 < m
  k0 : 0 ≤ k
  le : n * k ≤ m * d
theorem fdm {n d : Int} (hd : 0 < d) : n = d * n.fdiv d + n.fmod d ∧ 0 ≤ n.fmod d ∧ n.fmod d < d := by
  have h := Int.mul_fdiv_add_fmod n d
  exact ⟨by omega, Int.fmod_nonneg_of_pos n hd, Int.fmod_lt_of_pos n hd⟩
theorem fdiv_pos0 {n d : Int} (hn : 0 ≤ n) (hd : 0 < d) : 0 ≤ n.fdiv d := Int.fdiv_nonneg hn (Int.le_of_lt hd)
/-- What a round that is not the last one knows. -/
structure Rd (n d m k q r : Int) : Prop where
  hn : n = d * q + r
  r0 : 0 < r
  rd : r < d
  q0 : 0 ≤ q
  k0 : 0 < k
  s0 : 0 < m - q * k
  sk : m - q * k < k
  iv : Iv k (m - q * k) d r
theorem Iv.round {n d m k : Int} (h : Iv n d m k) (h1 : m < (if n.fmod d = 0 then n.fdiv d else n.fdiv d + 1) * k) : Rd n d m k (n.fdiv d) (n.fmod d) := by
  obtain ⟨e, r0, rd⟩ := fdm (n := n) h.d0
  have q0 := fdiv_pos0 (Int.le_of_lt h.n0) h.d0
  have hm := h.m0
  have hle := h.le
  have hd := h.d0
  generalize n.fdiv d = q at *
  generalize n.fmod d = r at *
  have hk : 0 < k := by
    rcases Int.lt_or_eq_of_le h.k0 with a | a
    · exact a
    · rw [← a, Int.mul_zero] at h1; omega
  have hr : r ≠ 0 := by
    intro a
    subst a
    rw [if_pos rfl] at h1
    have h2 := Int.mul_lt_mul_of_pos_right h1 hd
    have h3 : q * k * d = n * k := by rw [e]; grind
    omega
  rw [if_neg hr] at h1
  have hr0 : 0 < r := by omega
  have e2 : (q + 1) * k = q * k + k := by grind
  have hs : 0 < m - q * k := by
    refine Int.pos_of_mul_pos_left (b := d) ?_ hd
    have h5 : (m - q * k) * d = m * d - n * k + r * k := by rw [e]; grind
    have h6 := Int.mul_pos hr0 hk
    omega
  refine ⟨e, hr0, rd, q0, hk, hs, by omega, ⟨hk, hs, hd, r0, ?_⟩⟩
  have h7 : d * (m - q * k) - k * r = m * d - n * k := by rw [e]; grind
  omega
/-- The result of simplest. -/
def sres : Nat → Int → Int → Int → Int → Int × Int
  | 0, _, _, _, _ => (0, 1)
  | f + 1, n, d, m, k =>
    if m < (if n.fmod d = 0 then n.fdiv d else n.fdiv d + 1) * k then
      (n.fdiv d * (sres f k (m - n.fdiv d * k) d (n.fmod d)).1 + (sres f k (m - n.fdiv d * k) d (n.fmod d)).2, (sres f k (m - n.fdiv d * k) d (n.fmod d)).1)
    else (if n.fmod d = 0 then n.fdiv d else n.fdiv d + 1, 1)
/-- N/D lies in the interval, and is the least of all there, above and below. -/
structure Si (n d m k N D : Int) : Prop where
  N0 : 0 < N
  D0 : 0 < D
  lo : n * D ≤ N * d
  hi : N * k ≤ m * D
  least : ∀ p q : Int, 0 < q → n * q ≤ p * d → p * k ≤ m * q → D ≤ q ∧ N ≤ p
  cop : ∃ u v : Int, N * u + D * v = 1
theorem sres_si : ∀ (f : Nat) (n d m k : Int), Iv n d m k → (d + k).toNat < f → Si n d m k (sres f n d m k).1 (sres f n d m k).2
  | 0, _, _, _, _, _, hf => absurd hf (by omega)
  | f + 1, n, d, m, k, h, hf => by
    by_cases h1 : m < (if n.fmod d = 0 then n.fdiv d else n.fdiv d + 1) * k
    · have R := h.round h1
      have e : sres (f + 1) n d m k = (n.fdiv d * (sres f k (m - n.fdiv d * k) d (n.fmod d)).1 + (sres f k (m - n.fdiv d * k) d (n.fmod d)).2, (sres f k (m - n.fdiv d * k) d (n.fmod d)).1) := by
        conv => lhs; unfold sres
        rw [if_pos h1]
      have ih := sres_si f k (m - n.fdiv d * k) d (n.fmod d) R.iv (by have := R.rd; have := R.sk; have := R.r0; have := R.s0; omega)
      rw [e]
      obtain ⟨hn, r0, rd, q0, k0, s0, sk, iv⟩ := R
      generalize n.fdiv d = q at *
      generalize n.fmod d = r at *
      generalize (sres f k (m - q * k) d r).1 = N at *
      generalize (sres f k (m - q * k) d r).2 = D at *
      obtain ⟨N0, D0, lo, hi, least, u, v, cop⟩ := ih
      clear e h1 hf
      refine ⟨?_, N0, ?_, ?_, ?_, v, u - q * v, by show (q * N + D) * v + N * (u - q * v) = 1; grind⟩
      · show 0 < q * N + D
        have := Int.mul_nonneg q0 (Int.le_of_lt N0)
        omega
      · show n * N ≤ (q * N + D) * d
        rw [hn]
        grind
      · show (q * N + D) * k ≤ m * N
        grind
      · intro p y y0 a1 a2
        show N ≤ y ∧ q * N + D ≤ p
        have b1 : 0 < p - q * y := by
          refine Int.pos_of_mul_pos_left (b := d) ?_ h.d0
          have c1 : (p - q * y) * d = p * d - n * y + r * y := by rw [hn]; grind
          have c2 := Int.mul_pos r0 y0
          omega
        obtain ⟨c1, c2⟩ := least y (p - q * y) b1 (by grind) (by rw [hn] at a1; grind)
        refine ⟨c2, ?_⟩
        have c3 := Int.mul_le_mul_of_nonneg_left c2 q0
        omega
    · have e : sres (f + 1) n d m k = (if n.fmod d = 0 then n.fdiv d else n.fdiv d + 1, 1) := by
        conv => lhs; unfold sres
        rw [if_neg h1]
      rw [e]
      obtain ⟨e, r0, rd⟩ := fdm (n := n) h.d0
      have q0 := fdiv_pos0 (Int.le_of_lt h.n0) h.d0
      have hn := h.n0
      have hd := h.d0
      generalize n.fdiv d = q at *
      generalize n.fmod d = r at *
      obtain ⟨t, ht⟩ : ∃ t, t = if r = 0 then q else q + 1 := ⟨_, rfl⟩
      rw [← ht] at h1 ⊢
      have t1 : n ≤ t * d := by
        by_cases hr : r = 0
        · rw [if_pos hr] at ht; rw [ht]; grind
        · rw [if_neg hr] at ht; rw [ht]; grind
      have t2 : ∀ p y : Int, 0 < y → n * y ≤ p * d → t ≤ p := by
        intro p y y0 a1
        rcases Int.lt_or_le p t with c | c
        · exfalso
          have c0 : n ≤ p * d := by
            rcases Int.lt_or_le p 0 with z | z
            · have z1 := Int.mul_neg_of_neg_of_pos z hd
              have z2 := Int.mul_pos hn y0
              omega
            · have z2 : n * 1 ≤ n * y := Int.mul_le_mul_of_nonneg_left (by omega) (by omega)
              omega
          by_cases hr : r = 0
          · rw [if_pos hr] at ht
            have z3 : (p + 1) * d ≤ t * d := Int.mul_le_mul_of_nonneg_right (by omega) (by omega)
            have z4 : t * d = n := by rw [ht, e, hr]; grind
            have z5 : (p + 1) * d = p * d + d := by grind
            omega
          · rw [if_neg hr] at ht
            have z3 : p * d ≤ q * d := Int.mul_le_mul_of_nonneg_right (by omega) (by omega)
            have z4 : d * q = q * d := Int.mul_comm _ _
            omega
        · exact c
      have tp : 0 < t := by
        rcases Int.lt_or_le 0 t with c | c
        · exact c
        · have := Int.mul_nonneg (show 0 ≤ -t by omega) (Int.le_of_lt hd)
          rw [Int.neg_mul] at this
          omega
      refine ⟨tp, by show (0 : Int) < 1; decide, by show n * 1 ≤ t * d; omega, by show t * k ≤ m * 1; omega, ?_, 0, 1, by show t * 0 + 1 * 1 = 1; omega⟩
      intro p y y0 a1 a2
      exact ⟨by show 1 ≤ y; omega, t2 p y y0 a1⟩

theorem Si.gcd {n d m k N D : Int} (h : Si n d m k N D) : Int.gcd N D = 1 := by
  obtain ⟨u, v, e⟩ := h.cop
  have h3 : (Int.gcd N D : Int) ∣ N * u + D * v := Int.dvd_add (Int.dvd_mul_of_dvd_left (Int.gcd_dvd_left N D)) (Int.dvd_mul_of_dvd_left (Int.gcd_dvd_right N D))
  rw [e] at h3
  have h5 := Int.le_of_dvd (by decide) h3
  have h6 : Int.gcd N D ≠ 0 := by
    intro e
    rw [e] at h3
    have := Int.zero_dvd.1 h3
    omega
  omega
/-- The terms and the result. -/
theorem sterms_val : ∀ (f : Nat) (n d m k : Int), Iv n d m k → (d + k).toNat < f →
    sterms f n d m k ≠ [] ∧ (∀ c, c ∈ (sterms f n d m k).tail → 1 ≤ c) ∧ (d ≤ n → ∀ c, c ∈ sterms f n d m k → 1 ≤ c) ∧ cfv (sterms f n d m k) * ((sres f n d m k).2 : Rat) = ((sres f n d m k).1 : Rat)
  | 0, _, _, _, _, _, hf => absurd hf (by omega)
  | f + 1, n, d, m, k, h, hf => by
    by_cases h1 : m < (if n.fmod d = 0 then n.fdiv d else n.fdiv d + 1) * k
    · have R := h.round h1
      have e : sres (f + 1) n d m k = (n.fdiv d * (sres f k (m - n.fdiv d * k) d (n.fmod d)).1 + (sres f k (m - n.fdiv d * k) d (n.fmod d)).2, (sres f k (m - n.fdiv d * k) d (n.fmod d)).1) := by
        conv => lhs; unfold sres
        rw [if_pos h1]
      have e' : sterms (f + 1) n d m k = n.fdiv d :: sterms f k (m - n.fdiv d * k) d (n.fmod d) := by
        conv => lhs; unfold sterms
        rw [if_pos h1]
      have hf' : ((m - n.fdiv d * k) + n.fmod d).toNat < f := by have := R.rd; have := R.sk; have := R.r0; have := R.s0; omega
      have si := sres_si f k (m - n.fdiv d * k) d (n.fmod d) R.iv hf'
      obtain ⟨i1, i2, i3, i4⟩ := sterms_val f k (m - n.fdiv d * k) d (n.fmod d) R.iv hf'
      have i5 := i3 (Int.le_of_lt R.sk)
      have hv := cfv_pos i1 i5
      rw [e, e']
      refine ⟨by simp, i5, ?_, ?_⟩
      · intro hdn c hc
        rcases List.mem_cons.1 hc with rfl | hc
        · have hn := R.hn
          have hrd := R.rd
          have hd := h.d0
          rcases Int.lt_or_le 0 (n.fdiv d) with z | z
          · omega
          · have z2 := Int.mul_nonneg (Int.le_of_lt hd) (show 0 ≤ -n.fdiv d by omega)
            rw [Int.mul_neg] at z2
            omega
        · exact i5 c hc
      · show ((n.fdiv d : Int) + (cfv (sterms f k (m - n.fdiv d * k) d (n.fmod d)))⁻¹) * (((sres f k (m - n.fdiv d * k) d (n.fmod d)).1 : Int) : Rat) = ((n.fdiv d * (sres f k (m - n.fdiv d * k) d (n.fmod d)).1 + (sres f k (m - n.fdiv d * k) d (n.fmod d)).2 : Int) : Rat)
        rw [Rat.intCast_add, Rat.intCast_mul]
        generalize cfv (sterms f k (m - n.fdiv d * k) d (n.fmod d)) = v at *
        generalize (((sres f k (m - n.fdiv d * k) d (n.fmod d)).1 : Int) : Rat) = X at *
        generalize (((sres f k (m - n.fdiv d * k) d (n.fmod d)).2 : Int) : Rat) = Y at *
        have hv0 : v ≠ 0 := by intro z; rw [z] at hv; exact absurd hv (by decide)
        clear e e' i3 i5 si R
        grind
    · have e : sres (f + 1) n d m k = (if n.fmod d = 0 then n.fdiv d else n.fdiv d + 1, 1) := by
        conv => lhs; unfold sres
        rw [if_neg h1]
      have e' : sterms (f + 1) n d m k = [if n.fmod d = 0 then n.fdiv d else n.fdiv d + 1] := by
        conv => lhs; unfold sterms
        rw [if_neg h1]
      have si := sres_si (f + 1) n d m k h hf
      rw [e] at si
      rw [e, e']
      refine ⟨by simp, by simp, ?_, ?_⟩
      · intro _ c hc
        rw [List.mem_singleton.1 hc]
        have := si.N0
        simp only at this
        omega
      · rw [cfv_one]
        show _ * ((1 : Int) : Rat) = _
        rw [show ((1 : Int) : Rat) = 1 by simp, Rat.mul_one]
/-- What simplest returns, as a rational number. -/
theorem sterms_rat (n d m k : Int) (f : Nat) (h : Iv n d m k) (hf : (d + k).toNat < f) : Si n d m k (cfv (sterms f n d m k)).num (cfv (sterms f n d m k)).den := by
  have si := sres_si f n d m k h hf
  obtain ⟨-, -, -, e⟩ := sterms_val f n d m k h hf
  obtain ⟨e1, e2⟩ := rat_of (v := cfv (sterms f n d m k)) si.D0 si.gcd (by rw [← e, Rat.mul_comm])
  rw [e1, e2]
  exact si
end Go.Proofs.YtkhebidmfjbhaaaGreatDoor
namespace Go.Proofs.YtkhebidmfjbhaaaGreatDoor

end Go.Proofs.YtkhebidmfjbhaaaGreatDoor
