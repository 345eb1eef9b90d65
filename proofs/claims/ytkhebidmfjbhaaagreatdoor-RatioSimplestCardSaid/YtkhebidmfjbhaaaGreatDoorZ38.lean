/-
  What simplest returns.
-/
import Derived.Test.YtkhebidmfjbhaaaGreatDoorZ35
import Derived.Test.YtkhebidmfjbhaaaGreatDoorZ37
import Derived.Deep.RegionHeld3
import Derived.Deep.Cut
import Derived.BigQuiet
import Derived.BigRegion
import Derived.Deep.LoopGhost
namespace Go.Proofs.YtkhebidmfjbhaaaGreatDoor
open Go.RowKit
open Go

theorem bel_put {a w : World} {k o : Nat} {u : Value} (hk : a.heap.size ≤ k) (h : Below a.heap.size a w) : Below a.heap.size a (w.setCell ⟨k, o, none⟩ u) := below_set h o hk u
theorem St.overN {w W : World} {R : List (Nat × Value × Value × Bool × Value × Value × Bool)} {Z : List (Nat × Value × Value × Bool)} {N : List (Value × Value × Bool × Int)} {k : Nat} {p v p' v' : Value} {b b' : Bool} {y : Int} (h : St w W R ((k, p, v, b) :: Z) N) (m : (p, v, b, y) ∈ N) :
    St w (((W.setCell ⟨k, 0, none⟩ p').setCell ⟨k, 1, none⟩ v').setCell ⟨k, 2, none⟩ (.bool b')) R ((k, p', v', b') :: Z) N := h.over (h.nats _ m).1
theorem St.tailswap {w W : World} {Z : List (Nat × Value × Value × Bool)} {N : List (Value × Value × Bool × Int)} {a b c : Nat × Value × Value × Bool × Value × Value × Bool} (h : St w W [a, b, c] Z N) : St w W [a, c, b] Z N := by
  have key : ∀ e, e ∈ [a, c, b] ↔ e ∈ [a, b, c] := fun e => by simp only [List.mem_cons, List.not_mem_nil, or_false]; constructor <;> rintro (h | h | h) <;> simp [h]
  have hd := h.distR
  simp only [List.pairwise_cons, List.mem_cons, List.not_mem_nil, or_false] at hd
  refine ⟨h.below, fun e he => h.rats e ((key e).mp he), h.nums, h.nats, h.own, h.dist, fun e he d hx => h.apart e ((key e).mp he) d hx, ?_, fun e he => h.ownR e ((key e).mp he)⟩
  simp only [List.pairwise_cons, List.mem_cons, List.not_mem_nil, or_false]
  refine ⟨fun e he => hd.1 e (by rcases he with h | h <;> simp [h]), fun e he => ?_, fun e he => he.elim, List.Pairwise.nil⟩
  rw [he]
  exact (hd.2.1 c rfl).symm
theorem St.rev3 {w W : World} {Z : List (Nat × Value × Value × Bool)} {N : List (Value × Value × Bool × Int)} {a b c : Nat × Value × Value × Bool × Value × Value × Bool} (h : St w W [a, b, c] Z N) : St w W [c, b, a] Z N :=
  h.swapR.tailswap.swapR
theorem OwnL.drew {W : World} {B : Nat} {v : Value} {l : List Int} (h : OwnL W B v l) : OwnL W.drew B v l := h.kept (below_drew _)
theorem OwnL.alloc {W : World} {B : Nat} {v : Value} {l : List Int} {o : Obj} (h : OwnL W B v l) : OwnL (W.alloc o) B v l := h.kept (alloc_below _ _)
theorem bel_drew {B : Nat} {a w : World} (h : Below B a w) : Below B a w.drew := h.drew
theorem bel_alloc {a w : World} {o : Obj} (h : Below a.heap.size a w) : Below a.heap.size a (w.alloc o) := h.alloc h.size o
theorem St.armB {P : Program} {f : Nat} {args : Array Value} {w W b : World} {B : Nat} {R : List (Nat × Value × Value × Bool × Value × Value × Bool)} {Z : List (Nat × Value × Value × Bool)} {N : List (Value × Value × Bool × Int)} {Q Q' : Ending → World → Prop} (h : St w W R Z N) (g : Below B b W) (hc : St w W R Z N → Calls P f args W Q) (hk : ∀ e W', Q e W' ∧ St w W R Z N ∧ Below B b W → Q' e W') : Calls P f args W Q' :=
  (hc h).mono (fun e W' q => hk e W' ⟨q, h, g⟩)
theorem OwnL.by {W W' : World} {B : Nat} {v : Value} {l : List Int} (h : OwnL W B v l) (hs : ∀ g, v.ownBlock = some g → W'.heap[g]? = W.heap[g]?) (hI : ∀ p q b x, IntV W p q b x → IntV W' p q b x) : OwnL W' B v l := by
  obtain ⟨ts, hl, ho, hi⟩ := h.ex
  refine ⟨⟨ts, hl, ?_, fun i hi' => hI _ _ _ _ (hi i hi')⟩, h.pat.kept hs⟩
  refine ⟨ho.1, ?_⟩
  rcases ho.2 with hn | ⟨g, cap, cur, rfl, hB, hg, rest⟩
  · exact .inl hn
  · refine .inr ⟨g, cap, cur, rfl, hB, ?_, rest⟩
    rw [hs g rfl]
    exact hg
theorem OwnL.over6 {w W : World} {B : Nat} {v : Value} {l : List Int} {R : List (Nat × Value × Value × Bool × Value × Value × Bool)} {Z : List (Nat × Value × Value × Bool)} {N : List (Value × Value × Bool × Int)} {k : Nat} {p0 v0 q0 u0 : Value} {b0 c0 : Bool} {x y : Int} (p q1 : Value) (b : Bool) (q u : Value) (c : Bool) (h : OwnL W B v l) (hne : v.ownBlock ≠ some k) (H : St w W R Z N) (hk : (k, p0, v0, b0, q0, u0, c0) ∈ R) (hx : IntV W p0 v0 b0 x) (hy : IntV W q0 u0 c0 y) :
    OwnL ((((((W.setCell ⟨k, 0, none⟩ p).setCell ⟨k, 1, none⟩ q1).setCell ⟨k, 2, none⟩ (.bool b)).setCell ⟨k, 3, none⟩ q).setCell ⟨k, 4, none⟩ u).setCell ⟨k, 5, none⟩ (.bool c)) B v l := by
  refine h.by (fun g hg => ?_) (fun p' q' b' x' hi => ⟨hi.1.through6 (H.rats _ hk) hx.1 hy.1, hi.2⟩)
  have hgk : g ≠ k := fun e => hne (by rw [hg, e])
  rw [Below.heap_setCell _ _ _ _ hgk, Below.heap_setCell _ _ _ _ hgk, Below.heap_setCell _ _ _ _ hgk, Below.heap_setCell _ _ _ _ hgk, Below.heap_setCell _ _ _ _ hgk, Below.heap_setCell _ _ _ _ hgk]
theorem OwnL.over3 {w W : World} {B : Nat} {v : Value} {l : List Int} {R : List (Nat × Value × Value × Bool × Value × Value × Bool)} {Z : List (Nat × Value × Value × Bool)} {N : List (Value × Value × Bool × Int)} {k : Nat} {p0 v0 : Value} {b0 : Bool} {x : Int} (p q1 : Value) (b : Bool) (h : OwnL W B v l) (hne : v.ownBlock ≠ some k) (H : St w W R Z N) (hk : (k, p0, v0, b0) ∈ Z) (hx : IntV W p0 v0 b0 x) :
    OwnL (((W.setCell ⟨k, 0, none⟩ p).setCell ⟨k, 1, none⟩ q1).setCell ⟨k, 2, none⟩ (.bool b)) B v l := by
  refine h.by (fun g hg => ?_) (fun p' q' b' x' hi => ⟨hi.1.through (H.nums _ hk) hx.1, hi.2⟩)
  have hgk : g ≠ k := fun e => hne (by rw [hg, e])
  rw [Below.heap_setCell _ _ _ _ hgk, Below.heap_setCell _ _ _ _ hgk, Below.heap_setCell _ _ _ _ hgk]
theorem St.grown {w W W' : World} {R : List (Nat × Value × Value × Bool × Value × Value × Bool)} {Z : List (Nat × Value × Value × Bool)} {N : List (Value × Value × Bool × Int)} {blk : Option Nat} (h : St w W R Z N) (hg : W.grownBy W' blk) (hB : ∀ j, blk = some j → w.heap.size ≤ j) (hR : ∀ e ∈ R, blk ≠ some e.1) (hZ : ∀ e ∈ Z, blk ≠ some e.1) (hI : ∀ p q b x, IntV W p q b x → IntV W' p q b x) : St w W' R Z N := by
  have hc : ∀ (k o : Nat), k < W.heap.size → blk ≠ some k → W'.cell? ⟨k, o, none⟩ = W.cell? ⟨k, o, none⟩ ∧ W'.frozen? ⟨k, o, none⟩ = W.frozen? ⟨k, o, none⟩ := fun k o hk hne =>
    ⟨World.cell?_of_block (a := ⟨k, o, none⟩) (hg.block k hk (fun e => hne e.symm)), World.frozen?_of_block (a := ⟨k, o, none⟩) (hg.block k hk (fun e => hne e.symm))⟩
  refine ⟨h.below.grown hg h.below.size hB, fun e he => ?_, fun e he => ?_, fun e he => hI _ _ _ _ (h.nats e he), h.own, h.dist, h.apart, h.distR, h.ownR⟩
  · have r := h.rats e he
    have hk := r.lt
    have c := fun o => hc e.1 o hk (hR e he)
    exact ⟨(c 0).1.trans r.c0, (c 1).1.trans r.c1, (c 2).1.trans r.c2, (c 3).1.trans r.c3, (c 4).1.trans r.c4, (c 5).1.trans r.c5, (c 0).2.trans r.f0, (c 1).2.trans r.f1, (c 2).2.trans r.f2, (c 3).2.trans r.f3, (c 4).2.trans r.f4, (c 5).2.trans r.f5⟩
  · have r := h.nums e he
    have hk := r.lt
    have c := fun o => hc e.1 o hk (hZ e he)
    exact ⟨(c 0).1.trans r.c0, (c 1).1.trans r.c1, (c 2).1.trans r.c2, (c 0).2.trans r.f0, (c 1).2.trans r.f1, (c 2).2.trans r.f2⟩
/-- All integers stay. -/
def KeepI (w w' : World) : Prop := ∀ p q b x, IntV w p q b x → IntV w' p q b x
theorem wpList_append_z (w : World) {ops : Array Oper} {rest : List Oper} {o : Oper} {a : Act} {Q : Exit → Act → World → Prop} (hgd : o.guard = none) (s x : Operand)
    (ho : o.op = .call { callee := .builtin .append, args := #[s, x], argTypes := #[109, 109] })
    (B : Nat) (v : Value) (l : List Int) (hs : a.eval s = v) (hown : OwnL w B v l) (hB : B ≤ w.heap.size) (hlen : l.length ≤ 1000000000000)
    (ad : Addr) (c : Nat) (hx : a.eval x = .slice (some ad) 1 c) (p q : Value) (b : Bool) (z : Int) (h0 : w.cell? (ad.add 0) = some p) (h1 : w.cell? (ad.add 1) = some q) (h2 : w.cell? (ad.add 2) = some (.bool b)) (hz : IntV w p q b z)
    (h : ∀ v' w', OwnL w' B v' (l ++ [z]) → w.grownBy w' v.ownBlock → (∀ k, v'.ownBlock = some k → v.ownBlock = some k ∨ w.heap.size ≤ k) → KeepI w w' → wpList Tryz.prog ops Q rest (a.put o.dst v') w') : wpList Tryz.prog ops Q (o :: rest) a w := by
  refine wpList_plain hgd fun K hK => ?_
  obtain ⟨v', w', hr, h3, h4, h5, h6⟩ := hown.snoc hB o.type ad c p q b z h0 h1 h2 hz hlen
  unfold Oper.wp
  simp [execOp, ho, resolve, invoke, builtin, hs, hx, hr, Result.andThen]
  exact hK _ _ (h v' w' h3 h4 h5 h6)
/-- The loop of simplest. -/
def Sl (w wr : World) (v : Value) (L0 : List Int) (f : Nat) : Prop := ∃ (n d m k : Int) (l : List Int) (p1 v1 : Value) (b1 : Bool) (q1 u1 : Value) (c1 : Bool) (p2 v2 : Value) (b2 : Bool) (q2 u2 : Value) (c2 : Bool),
  St w wr [(w.heap.size + 1 + 1, .int .u64 0, .slice none 0 0, false, .int .u64 0, .slice none 0 0, false), (w.heap.size + 1, p2, v2, b2, q2, u2, c2), (w.heap.size, p1, v1, b1, q1, u1, c1)] [] [(p1, v1, b1, n), (q1, u1, c1, d), (p2, v2, b2, m), (q2, u2, c2, k)] ∧ OwnL wr w.heap.size v l ∧ (∀ j, v.ownBlock = some j → j ≠ w.heap.size ∧ j ≠ w.heap.size + 1 ∧ j ≠ w.heap.size + 1 + 1) ∧ Iv n d m k ∧ (d + k).toNat < f ∧ L0 = l ++ sterms f n d m k ∧ dn n ≤ 1000 ∧ dn d ≤ 1000 ∧ dn m ≤ 1000 ∧ dn k ≤ 1000
set_option maxHeartbeats 4000000 in
set_option maxRecDepth 100000 in
theorem simplest_any (px vx : Value) (ix : Bool) (py vy : Value) (iy : Bool) (pz vz : Value) (iz : Bool) (pr vr : Value) (ir : Bool) (n d m k : Int) (w : World) (hx : IntV w px vx ix n) (hy : IntV w py vy iy d) (hz : IntV w pz vz iz m) (hr : IntV w pr vr ir k) (hiv : Iv n d m k) (hn : dn n ≤ 1000) (hd : dn d ≤ 1000) (hm : dn m ≤ 1000) (hk : dn k ≤ 1000) (L0 : List Int) (f0 : Nat) (hf : (d + k).toNat < f0) (hL : L0 = sterms f0 n d m k) :
    Calls Tryz.prog 125 #[.agg #[px, vx, .bool ix, py, vy, .bool iy], .agg #[pz, vz, .bool iz, pr, vr, .bool ir]] w (GivesR (cbr (1, 0, 0, 1) L0).1 (cbr (1, 0, 0, 1) L0).2.1 w) := by
  have TM := Lib.hid (show Tm L0 from by rw [hL]; exact Tm.of hiv hf hn hd hm hk)
  obtain ⟨X1, hX1⟩ : ∃ X1, X1 = (cbr (1, 0, 0, 1) L0).1 := ⟨_, rfl⟩
  obtain ⟨X2, hX2⟩ : ∃ X2, X2 = (cbr (1, 0, 0, 1) L0).2.1 := ⟨_, rfl⟩
  rw [← hX1, ← hX2]
  have CO := Lib.hid (fun v W (h : NumL W v L0) => (show Calls Tryz.prog 120 #[v] W (GivesR X1 X2 W) from by rw [hX1, hX2]; exact collapse_any v L0 W h TM.out.pos TM.out.dn (by have := TM.out.len; omega)))
  clear hX1 hX2
  obtain ⟨xt, xa, xn, rfl, rfl, -, -, -, -, -, -⟩ := hx.1.form
  obtain ⟨xs, hxs⟩ : ∃ s, s = ix := ⟨_, rfl⟩; subst hxs
  obtain ⟨yt, ya, yn, rfl, rfl, -, -, -, -, -, -⟩ := hy.1.form
  obtain ⟨ys, hys⟩ : ∃ s, s = iy := ⟨_, rfl⟩; subst hys
  obtain ⟨zt, za, zn, rfl, rfl, -, -, -, -, -, -⟩ := hz.1.form
  obtain ⟨zs, hzs⟩ : ∃ s, s = iz := ⟨_, rfl⟩; subst hzs
  obtain ⟨rt, ra, rn, rfl, rfl, -, -, -, -, -, -⟩ := hr.1.form
  obtain ⟨rs, hrs⟩ : ∃ s, s = ir := ⟨_, rfl⟩; subst hrs
  go_enter Tryz.func125, Tryz.ntmps125
  go_wp2_with fail
  obtain ⟨W0, hW0⟩ : ∃ W0, W0 = (((w.alloc (.cells #[.int .u64 xt, .slice xa xn xn, .bool xs, .int .u64 yt, .slice ya yn yn, .bool ys] 76)).alloc (.cells #[.int .u64 zt, .slice za zn zn, .bool zs, .int .u64 rt, .slice ra rn rn, .bool rs] 76)).alloc (.cells #[.int .u64 0, .slice none 0 0, .bool false, .int .u64 0, .slice none 0 0, .bool false] 76)) := ⟨_, rfl⟩
  have ST : St w W0 [(w.heap.size + 1 + 1, .int .u64 0, .slice none 0 0, false, .int .u64 0, .slice none 0 0, false), (w.heap.size + 1, .int .u64 zt, .slice za zn zn, zs, .int .u64 rt, .slice ra rn rn, rs), (w.heap.size, .int .u64 xt, .slice xa xn xn, xs, .int .u64 yt, .slice ya yn yn, ys)] [] [(.int .u64 xt, .slice xa xn xn, xs, n), (.int .u64 yt, .slice ya yn yn, ys, d), (.int .u64 zt, .slice za zn zn, zs, m), (.int .u64 rt, .slice ra rn rn, rs, k)] := by
    rw [hW0]
    exact (((((((St.zero).know hr).know hz).know hy).know hx).allocR (k := w.heap.size) (t := 76) (by first | rfl | (simp; done) | (simp; omega))).allocR (k := w.heap.size + 1) (t := 76) (by first | rfl | (simp; done) | (simp; omega))).allocR (k := w.heap.size + 1 + 1) (t := 76) (by first | rfl | (simp; done) | (simp; omega))
  replace ST := Lib.hid ST
  rw [← hW0]
  clear hW0
  have SL := Lib.hid (show Sl w W0 (.slice none 0 0) L0 f0 from ⟨n, d, m, k, [], _, _, _, _, _, _, _, _, _, _, _, _, ST.out, OwnL.nil _ _, fun j hj => by simp [Value.ownBlock] at hj, hiv, hf, by rw [hL]; rfl, hn, hd, hm, hk⟩)
  clear ST hx hy hz hr hiv hn hd hm hk hf hL
  go_wp2_with fail
  go_loopg [5] f0 (fun f v wr => Sl w wr v L0 f)
  case atStart => exact SL.out
  case round =>
    clear SL
    skip
    obtain ⟨n, d, m, k, l, p1, v1, b1, q1, u1, c1, p2, v2, b2, q2, u2, c2, ST, HO, HF, hiv, hf, hL, hn, hd, hm, hk⟩ := hrel
    have hx := ST.int (p := p1) (v := v1) (b := b1) (x := n) (by with_reducible ((repeat ((fail_if_success exact mem0); apply List.mem_cons_of_mem)); exact mem0))
    obtain ⟨xt, xa, xn, rfl, rfl, -, -, -, -, -, -⟩ := hx.1.form
    obtain ⟨xs, hxs⟩ : ∃ s, s = b1 := ⟨_, rfl⟩
    subst hxs
    clear hx
    have hy := ST.int (p := q1) (v := u1) (b := c1) (x := d) (by with_reducible ((repeat ((fail_if_success exact mem0); apply List.mem_cons_of_mem)); exact mem0))
    obtain ⟨yt, ya, yn, rfl, rfl, -, -, -, -, -, -⟩ := hy.1.form
    obtain ⟨ys, hys⟩ : ∃ s, s = c1 := ⟨_, rfl⟩
    subst hys
    clear hy
    have hz := ST.int (p := p2) (v := v2) (b := b2) (x := m) (by with_reducible ((repeat ((fail_if_success exact mem0); apply List.mem_cons_of_mem)); exact mem0))
    obtain ⟨zt, za, zn, rfl, rfl, -, -, -, -, -, -⟩ := hz.1.form
    obtain ⟨zs, hzs⟩ : ∃ s, s = b2 := ⟨_, rfl⟩
    subst hzs
    clear hz
    have hr := ST.int (p := q2) (v := u2) (b := c2) (x := k) (by with_reducible ((repeat ((fail_if_success exact mem0); apply List.mem_cons_of_mem)); exact mem0))
    obtain ⟨rt, ra, rn, rfl, rfl, -, -, -, -, -, -⟩ := hr.1.form
    obtain ⟨rs, hrs⟩ : ∃ s, s = c2 := ⟨_, rfl⟩
    subst hrs
    clear hr
    replace ST := Lib.hid ST
    replace HO := Lib.hid HO
    replace HF := Lib.hid HF
    have HIV := Lib.hid hiv
    have HFU := Lib.hid hf
    have HL := Lib.hid hL
    have d0 := hiv.d0
    obtain ⟨Q, hQ⟩ : ∃ Q, n.fdiv d = Q := ⟨_, rfl⟩
    obtain ⟨R, hR⟩ : ∃ R, n.fmod d = R := ⟨_, rfl⟩
    have n9 := nlp hn (by omega)
    have d9 := nlp hd (by omega)
    have m9 := nlp hm (by omega)
    have k9 := nlp hk (by omega)
    have DM := Op22.dm hQ hR (by omega) (by omega) (by omega)
    have HQ := Lib.hid hQ
    have HR := Lib.hid hR
    have DN := Lib.hid (And.intro hn (And.intro hd (And.intro hm hk)))
    clear hQ hR hiv hf hL hn hd hm hk
    obtain ⟨c0, c1, c2, c3, c4, c5⟩ := ST.out.rat (k := w.heap.size) (by with_reducible ((repeat ((fail_if_success exact mem0); apply List.mem_cons_of_mem)); exact mem0))
    go_wp2_with fail
    refine St.arm (w := w) (by exact ST.out) (by intro H; exact DM _ _ _ _ _ _ _ (H.int (by with_reducible ((repeat ((fail_if_success exact mem0); apply List.mem_cons_of_mem)); exact mem0))) (H.int (by with_reducible ((repeat ((fail_if_success exact mem0); apply List.mem_cons_of_mem)); exact mem0)))) ?_
    rintro e w5 ⟨⟨p5, v5, o5, u5, rfl, hv5, hu5, hb5⟩, H⟩
    replace HO := Lib.hid (HO.out.kept hb5)
    obtain ⟨r5s, hs5⟩ : ∃ sgn, sgn = decide (Q < 0) := ⟨_, rfl⟩
    obtain ⟨q5s, ht5⟩ : ∃ sgn, sgn = decide (R < 0) := ⟨_, rfl⟩
    rw [← hs5, ← ht5]
    have hi := And.intro hv5 hs5
    have hj := And.intro hu5 ht5
    obtain ⟨r5t, r5a, r5n, rfl, rfl, -, -, -, -, -, -⟩ := hv5.form
    obtain ⟨q5t, q5a, q5n, rfl, rfl, -, -, -, -, -, -⟩ := hu5.form
    replace ST := Lib.hid (((H.call hb5).know hj).know hi)
    clear hi hj hv5 hu5 hb5 hs5 ht5
    clear H c0 c1 c2 c3 c4 c5
    go_upto_region 4 with fail
    have HK := Lib.hid (fun j hj => (HO.out.lt j hj).2)
    obtain ⟨W6, hW⟩ : ∃ W6, W6 = ((w5.alloc (.cells #[.int .u64 r5t, .slice r5a r5n r5n, .bool r5s] 74)).alloc (.cells #[.int .u64 q5t, .slice q5a q5n q5n, .bool q5s] 74)).alloc (.cells #[.int .u64 r5t, .slice r5a r5n r5n, .bool r5s] 74) := ⟨_, rfl⟩
    rw [← hW]
    replace ST := ((ST.out.allocN (.int .u64 r5t) (.slice r5a r5n r5n) r5s 74 w5.heap.size rfl).allocN (.int .u64 q5t) (.slice q5a q5n q5n) q5s 74 (w5.heap.size + 1) (by first | rfl | (simp; done) | (simp; omega))).allocN (.int .u64 r5t) (.slice r5a r5n r5n) r5s 74 (w5.heap.size + 1 + 1) (by first | rfl | (simp; done) | (simp; omega))
    have HO6 : OwnL W6 w.heap.size u5 l := by rw [hW]; exact HO.out.alloc.alloc.alloc
    rw [← hW] at ST
    clear hW HO
    have HO := Lib.hid HO6
    clear HO6
    replace ST := Lib.hid ST
    obtain ⟨k6, hk⟩ : ∃ k, k = w5.heap.size := ⟨_, rfl⟩
    rw [← hk] at ST HK ⊢
    clear hk
    by_cases hR0 : R = 0
    · obtain ⟨d0, d1, d2⟩ := ST.out.num (k := k6 + 1) (by with_reducible ((repeat ((fail_if_success exact mem0); apply List.mem_cons_of_mem)); exact mem0))
      go_wp2_with fail
      refine St.armB (w := w) (b := W6) (by exact ST.out) (Below.refl W6.heap.size W6) (by intro H; exact zero_yes hR0 (H.int (x := R) (by with_reducible ((repeat ((fail_if_success exact mem0); apply List.mem_cons_of_mem)); exact mem0)))) ?_
      rintro e w22 ⟨⟨rfl, hb22⟩, H, -⟩
      replace ST := Lib.hid (H.call hb22)
      replace HO := Lib.hid (HO.out.kept hb22)
      clear hb22 H d0 d1 d2
      obtain ⟨T, hT⟩ : ∃ T, T = Q := ⟨_, rfl⟩
      have HT := Lib.hid (show (if n.fmod d = 0 then n.fdiv d else n.fdiv d + 1) = T from by rw [HR.out, HQ.out, if_pos hR0, hT])
      have T9 : nl T.natAbs ≤ 20000 := by rw [hT, ← HQ.out]; exact nlp (fdiv_dk (by omega) DN.out.1) (by omega)
      have hTd : dn T ≤ 1000 := by rw [hT, ← HQ.out]; exact fdiv_dk (by omega) DN.out.1
      have HTQ := Lib.hid hT
      have hIT : St w w22 [(w.heap.size + 1 + 1, .int .u64 0, .slice none 0 0, false, .int .u64 0, .slice none 0 0, false), (w.heap.size + 1, .int .u64 zt, .slice za zn zn, zs, .int .u64 rt, .slice ra rn rn, rs), (w.heap.size, .int .u64 xt, .slice xa xn xn, xs, .int .u64 yt, .slice ya yn yn, ys)] [(k6 + 1 + 1, .int .u64 r5t, .slice r5a r5n r5n, r5s), (k6 + 1, .int .u64 q5t, .slice q5a q5n q5n, q5s), (k6, .int .u64 r5t, .slice r5a r5n r5n, r5s)] [(.int .u64 r5t, .slice r5a r5n r5n, r5s, T), (.int .u64 r5t, .slice r5a r5n r5n, r5s, Q), (.int .u64 q5t, .slice q5a q5n q5n, q5s, R), (.int .u64 xt, .slice xa xn xn, xs, n), (.int .u64 yt, .slice ya yn yn, ys, d), (.int .u64 zt, .slice za zn zn, zs, m), (.int .u64 rt, .slice ra rn rn, rs, k)] := by rw [hT]; exact ST.out.know (ST.out.int (by with_reducible ((repeat ((fail_if_success exact mem0); apply List.mem_cons_of_mem)); exact mem0)))
      replace ST := Lib.hid hIT
      clear hIT hT
      have CL9 := lessR_run (x := m) (y := k) (z := T) (r := 1) m9 k9 T9 (Nat.le_trans (nl_small (by decide)) (by decide))
      rw [Int.mul_one] at CL9
      by_cases hlt : m < T * k
      · have hdc : decide (m < T * k) = true := decide_eq_true hlt
        rw [hdc] at CL9
        clear hdc
        go_upto_region 6 with fail
        obtain ⟨Wb, hWb⟩ : ∃ Wb, Wb = w22 := ⟨_, rfl⟩
        have HB := Lib.hid (Below.refl w22.heap.size w22)
        rw [← hWb] at HB HO ST ⊢
        have hwb := hWb
        clear hWb hwb
        go_cut [30] from 26 to 54 (fun x30 W => x30 = .bool false ∧ St w W [(w.heap.size + 1 + 1, .int .u64 0, .slice none 0 0, false, .int .u64 0, .slice none 0 0, false), (w.heap.size + 1, .int .u64 zt, .slice za zn zn, zs, .int .u64 rt, .slice ra rn rn, rs), (w.heap.size, .int .u64 xt, .slice xa xn xn, xs, .int .u64 yt, .slice ya yn yn, ys)] [(k6 + 1 + 1, .int .u64 r5t, .slice r5a r5n r5n, r5s), (k6 + 1, .int .u64 q5t, .slice q5a q5n q5n, q5s), (k6, .int .u64 r5t, .slice r5a r5n r5n, r5s)] [(.int .u64 r5t, .slice r5a r5n r5n, r5s, T), (.int .u64 r5t, .slice r5a r5n r5n, r5s, Q), (.int .u64 q5t, .slice q5a q5n q5n, q5s, R), (.int .u64 xt, .slice xa xn xn, xs, n), (.int .u64 yt, .slice ya yn yn, ys, d), (.int .u64 zt, .slice za zn zn, zs, m), (.int .u64 rt, .slice ra rn rn, rs, k)] ∧ Below Wb.heap.size Wb W)
        case first =>
          go_region_held3 (fun W => (W.cell? ⟨w.heap.size + 1, 0, none⟩ = some (.int .u64 zt) ∧ W.cell? ⟨w.heap.size + 1, 1, none⟩ = some (.slice za zn zn) ∧ W.cell? ⟨w.heap.size + 1, 2, none⟩ = some (.bool zs) ∧ W.cell? ⟨w.heap.size + 1, 3, none⟩ = some (.int .u64 rt) ∧ W.cell? ⟨w.heap.size + 1, 4, none⟩ = some (.slice ra rn rn) ∧ W.cell? ⟨w.heap.size + 1, 5, none⟩ = some (.bool rs)) ∧ (W.cell? ⟨k6 + 1 + 1, 0, none⟩ = some (.int .u64 r5t) ∧ W.cell? ⟨k6 + 1 + 1, 1, none⟩ = some (.slice r5a r5n r5n) ∧ W.cell? ⟨k6 + 1 + 1, 2, none⟩ = some (.bool r5s))) (exact ⟨St.rat (w := w) (by ((with_reducible iterate 4 try first | apply St.drew | apply St.alloc | apply St.allocR | apply St.putR); ((with_reducible exact ST.out); all_goals (first | rfl | (simp; done) | (simp; omega))))) (by with_reducible ((repeat ((fail_if_success exact mem0); apply List.mem_cons_of_mem)); exact mem0)), St.num (w := w) (by ((with_reducible iterate 4 try first | apply St.drew | apply St.alloc | apply St.allocR | apply St.putR); ((with_reducible exact ST.out); all_goals (first | rfl | (simp; done) | (simp; omega))))) (by with_reducible ((repeat ((fail_if_success exact mem0); apply List.mem_cons_of_mem)); exact mem0))⟩) (first | (go_at_call 118; refine St.armB (w := w) (by ((with_reducible iterate 4 try first | apply St.drew | apply St.alloc | apply St.allocR | apply St.putR); ((with_reducible exact ST.out); all_goals (first | rfl | (simp; done) | (simp; omega))))) (by ((repeat (first | (with_reducible apply bel_drew) | (with_reducible apply bel_alloc) | ((with_reducible refine bel_put ?_ ?_); focus (first | omega | (simp; omega))))); with_reducible exact HB.out)) (by intro H; with_reducible exact fromWhole_any _ _ _ T _ (H.int (by with_reducible ((repeat ((fail_if_success exact mem0); apply List.mem_cons_of_mem)); exact mem0)))) ?_; rintro e w28 ⟨⟨p28, v28, o28, u28, rfl, hv28, hu28, hb28⟩, H, G⟩; obtain ⟨r28s, hs28⟩ : ∃ sgn, sgn = decide (T < 0) := ⟨_, rfl⟩; obtain ⟨q28s, ht28⟩ : ∃ sgn, sgn = decide ((1 : Int) < 0) := ⟨_, rfl⟩; rw [← hs28, ← ht28]; have hi := And.intro hv28 hs28; have hj := And.intro hu28 ht28; obtain ⟨r28t, r28a, r28n, rfl, rfl, -, -, -, -, -, -⟩ := hv28.form; obtain ⟨q28t, q28a, q28n, rfl, rfl, -, -, -, -, -, -⟩ := hu28.form; replace ST := Lib.hid (((H.call hb28).know hj).know hi); replace HB := Lib.hid (G.trans (hb28.mono G.size)); clear hi hj H G hv28 hu28 hb28 hs28 ht28) | (go_at_call 87; refine St.armB (w := w) (by ((with_reducible iterate 4 try first | apply St.drew | apply St.alloc | apply St.allocR | apply St.putR); ((with_reducible exact ST.out); all_goals (first | rfl | (simp; done) | (simp; omega))))) (by ((repeat (first | (with_reducible apply bel_drew) | (with_reducible apply bel_alloc) | ((with_reducible refine bel_put ?_ ?_); focus (first | omega | (simp; omega))))); with_reducible exact HB.out)) (by intro H; with_reducible exact CL9.run (H.int (x := m) (by with_reducible ((repeat ((fail_if_success exact mem0); apply List.mem_cons_of_mem)); exact mem0))) (H.int (x := k) (by with_reducible ((repeat ((fail_if_success exact mem0); apply List.mem_cons_of_mem)); exact mem0))) (H.int (x := T) (by with_reducible ((repeat ((fail_if_success exact mem0); apply List.mem_cons_of_mem)); exact mem0))) (H.int (x := 1) (by with_reducible ((repeat ((fail_if_success exact mem0); apply List.mem_cons_of_mem)); exact mem0)))) ?_; rintro e w29 ⟨⟨rfl, hb29⟩, H, G⟩; replace ST := Lib.hid (H.call hb29); replace HB := Lib.hid (G.trans (hb29.mono G.size)); clear H G hb29) | fail)
          all_goals (go_wp2_with fail; go_meet; case rel => (refine ⟨rfl, ?_, by ((repeat (first | (with_reducible apply bel_drew) | (with_reducible apply bel_alloc) | ((with_reducible refine bel_put ?_ ?_); focus (first | omega | (simp; omega))))); with_reducible exact HB.out)⟩; exact St.keep (by ((with_reducible iterate 4 try first | apply St.drew | apply St.alloc | apply St.allocR | apply St.putR); ((with_reducible exact ST.out); all_goals (first | rfl | (simp; done) | (simp; omega))))) (fun H => (((((((H.bare.pick H (by with_reducible ((repeat ((fail_if_success exact mem0); apply List.mem_cons_of_mem)); exact mem0))).pick H (by with_reducible ((repeat ((fail_if_success exact mem0); apply List.mem_cons_of_mem)); exact mem0))).pick H (by with_reducible ((repeat ((fail_if_success exact mem0); apply List.mem_cons_of_mem)); exact mem0))).pick H (by with_reducible ((repeat ((fail_if_success exact mem0); apply List.mem_cons_of_mem)); exact mem0))).pick H (by with_reducible ((repeat ((fail_if_success exact mem0); apply List.mem_cons_of_mem)); exact mem0))).pick H (by with_reducible ((repeat ((fail_if_success exact mem0); apply List.mem_cons_of_mem)); exact mem0))).pick H (by with_reducible ((repeat ((fail_if_success exact mem0); apply List.mem_cons_of_mem)); exact mem0))))))
        case rest =>
          obtain ⟨rfl, hST, hB⟩ := hcut
          replace HO := Lib.hid (HO.out.kept hB)
          clear ST HB hB
          have ST := Lib.hid hST
          clear hST
          have R3 := HIV.out.round (by rw [HT.out]; have := hlt; omega)
          rw [HQ.out, HR.out] at R3
          have hst : sterms gk n d m k = Q :: sterms (gk - 1) k (m - Q * k) d R := by
              obtain ⟨g, hg⟩ : ∃ g, gk = g + 1 := ⟨gk - 1, by have := HFU.out; omega⟩
              rw [hg, sterms_go (by rw [HT.out]; have := hlt; omega), HQ.out, HR.out]
              rfl
          have hL0 : L0 = (l ++ [Q]) ++ sterms (gk - 1) k (m - Q * k) d R := by rw [HL.out, hst]; simp
          have hlen : l.length ≤ 1000000000000 := by have := TM.out.len; rw [hL0] at this; simp at this; omega
          have HL0 := Lib.hid hL0
          have R3 := Lib.hid R3
          clear hst hL0
          obtain ⟨e0, e1, e2⟩ := ST.out.num (k := k6) (by with_reducible ((repeat ((fail_if_success exact mem0); apply List.mem_cons_of_mem)); exact mem0))
          go_wp2_with (at_builtin; refine wpList_append_z _ rfl _ _ rfl w.heap.size _ l rfl HO.out.alloc ?c1 hlen ⟨wc.heap.size, 0, none⟩ 1 rfl (.int .u64 r5t) (.slice r5a r5n r5n) r5s Q ?c2 ?c3 ?c4 ?c5 ?_)
          case c1 => have := ST.out.below.size; simp; omega
          try (case c2 => simp [Addr.add])
          try (case c3 => simp [Addr.add])
          try (case c4 => simp [Addr.add])
          case c5 => exact (ST.out.int (x := Q) (by with_reducible ((repeat ((fail_if_success exact mem0); apply List.mem_cons_of_mem)); exact mem0))).below (alloc_below _ _)
          · intro v1 w1 ho hg hbk hI
            have STa := ST.out.call (alloc_below wc (.cells #[.int .u64 r5t, .slice r5a r5n r5n, .bool r5s] 74))
            have STb := STa.grown hg (fun j hj => (HO.out.lt j hj).1) (by
                intro e he hj
                have hf := HF.out _ hj
                simp only [List.mem_cons, List.not_mem_nil, or_false] at he
                rcases he with rfl | rfl | rfl
                · exact hf.2.2 rfl
                · exact hf.2.1 rfl
                · exact hf.1 rfl) (by
                intro e he hj
                have hk := HK.out _ hj
                simp only [List.mem_cons, List.not_mem_nil, or_false] at he
                rcases he with rfl | rfl | rfl <;> (dsimp only at hk; omega)) hI
            have hz1 := (STa.rats (w.heap.size + 1 + 1, .int .u64 0, .slice none 0 0, false, .int .u64 0, .slice none 0 0, false) (by with_reducible ((repeat ((fail_if_success exact mem0); apply List.mem_cons_of_mem)); exact mem0))).lt
            dsimp only at hz1
            have HF1 := Lib.hid (show ∀ j, v1.ownBlock = some j → j ≠ w.heap.size ∧ j ≠ w.heap.size + 1 ∧ j ≠ w.heap.size + 1 + 1 from fun j hj => by
                rcases hbk j hj with h | h
                · exact HF.out j h
                · first | omega | (simp only [World.size_alloc] at hz1 h; omega))
            clear ST HF hz1
            replace ST := Lib.hid STb
            clear STa STb hg hbk hI e0 e1 e2
            replace HO := Lib.hid ho
            clear ho
            obtain ⟨SK, hSK⟩ : ∃ s, Q * k = s := ⟨_, rfl⟩
            obtain ⟨S, hS⟩ : ∃ s, m - SK = s := ⟨_, rfl⟩
            have hQd : dn Q ≤ 1000 := by rw [← HQ.out]; exact fdiv_dk (by omega) DN.out.1
            have hSKd : dn SK ≤ 2000 := by rw [← hSK]; exact dn_times (j := 1000) (k := 1000) hQd DN.out.2.2.2 (by omega)
            have M1 := Op2.times hSK (Nat.le_trans (nlp hQd (by omega)) (by omega)) (Nat.le_trans k9 (by omega))
            have M2 := Op2.minus hS (Nat.le_trans m9 (by omega)) (Nat.le_trans (nlp hSKd (by omega)) (by omega))
            have HS := Lib.hid (show m - Q * k = S from by rw [hSK]; exact hS)
            clear hSK hS hQd hSKd
            go_upto_region 9 with fail
            have HB := Lib.hid (Below.refl w1.heap.size w1)
            have hz0 : w1.heap.size ≤ w1.heap.size := Nat.le_refl _
            go_cut [9] from 40 to 54 (fun x9 W => ∃ k9 st sa sn ss, x9 = .pointer (some ⟨k9, 0, none⟩) ∧ St w W [(w.heap.size + 1 + 1, .int .u64 0, .slice none 0 0, false, .int .u64 0, .slice none 0 0, false), (w.heap.size + 1, .int .u64 zt, .slice za zn zn, zs, .int .u64 rt, .slice ra rn rn, rs), (w.heap.size, .int .u64 xt, .slice xa xn xn, xs, .int .u64 yt, .slice ya yn yn, ys)] [(k9, .int .u64 st, .slice sa sn sn, ss), (k6 + 1 + 1, .int .u64 r5t, .slice r5a r5n r5n, r5s), (k6 + 1, .int .u64 q5t, .slice q5a q5n q5n, q5s), (k6, .int .u64 r5t, .slice r5a r5n r5n, r5s)] [(.int .u64 st, .slice sa sn sn, ss, S), (.int .u64 r5t, .slice r5a r5n r5n, r5s, T), (.int .u64 r5t, .slice r5a r5n r5n, r5s, Q), (.int .u64 q5t, .slice q5a q5n q5n, q5s, R), (.int .u64 xt, .slice xa xn xn, xs, n), (.int .u64 yt, .slice ya yn yn, ys, d), (.int .u64 zt, .slice za zn zn, zs, m), (.int .u64 rt, .slice ra rn rn, rs, k)] ∧ Below w1.heap.size w1 W)
            case first =>
              go_region_held3 (fun W => (W.cell? ⟨w.heap.size + 1, 0, none⟩ = some (.int .u64 zt) ∧ W.cell? ⟨w.heap.size + 1, 1, none⟩ = some (.slice za zn zn) ∧ W.cell? ⟨w.heap.size + 1, 2, none⟩ = some (.bool zs) ∧ W.cell? ⟨w.heap.size + 1, 3, none⟩ = some (.int .u64 rt) ∧ W.cell? ⟨w.heap.size + 1, 4, none⟩ = some (.slice ra rn rn) ∧ W.cell? ⟨w.heap.size + 1, 5, none⟩ = some (.bool rs)) ∧ (W.cell? ⟨k6, 0, none⟩ = some (.int .u64 r5t) ∧ W.cell? ⟨k6, 1, none⟩ = some (.slice r5a r5n r5n) ∧ W.cell? ⟨k6, 2, none⟩ = some (.bool r5s))) (exact ⟨St.rat (w := w) (by ((with_reducible iterate 4 try first | apply St.drew | apply St.alloc | apply St.allocR | apply St.putR); first | ((with_reducible exact ST.out); all_goals (first | rfl | (simp; done) | (simp; omega))) | ((with_reducible apply St.put0); ((with_reducible iterate 4 try first | apply St.drew | apply St.alloc | apply St.allocR | apply St.putR); ((with_reducible exact ST.out); all_goals (first | rfl | (simp; done) | (simp; omega))))) | ((with_reducible apply St.put1); ((with_reducible iterate 4 try first | apply St.drew | apply St.alloc | apply St.allocR | apply St.putR); ((with_reducible exact ST.out); all_goals (first | rfl | (simp; done) | (simp; omega))))))) (by with_reducible ((repeat ((fail_if_success exact mem0); apply List.mem_cons_of_mem)); exact mem0)), St.num (w := w) (by ((with_reducible iterate 4 try first | apply St.drew | apply St.alloc | apply St.allocR | apply St.putR); first | ((with_reducible exact ST.out); all_goals (first | rfl | (simp; done) | (simp; omega))) | ((with_reducible apply St.put0); ((with_reducible iterate 4 try first | apply St.drew | apply St.alloc | apply St.allocR | apply St.putR); ((with_reducible exact ST.out); all_goals (first | rfl | (simp; done) | (simp; omega))))) | ((with_reducible apply St.put1); ((with_reducible iterate 4 try first | apply St.drew | apply St.alloc | apply St.allocR | apply St.putR); ((with_reducible exact ST.out); all_goals (first | rfl | (simp; done) | (simp; omega))))))) (by with_reducible ((repeat ((fail_if_success exact mem0); apply List.mem_cons_of_mem)); exact mem0))⟩) (first | (go_at_call 134; refine St.armB (w := w) (by ((with_reducible iterate 4 try first | apply St.drew | apply St.alloc | apply St.allocR | apply St.putR); first | ((with_reducible exact ST.out); all_goals (first | rfl | (simp; done) | (simp; omega))) | ((with_reducible apply St.put0); ((with_reducible iterate 4 try first | apply St.drew | apply St.alloc | apply St.allocR | apply St.putR); ((with_reducible exact ST.out); all_goals (first | rfl | (simp; done) | (simp; omega))))) | ((with_reducible apply St.put1); ((with_reducible iterate 4 try first | apply St.drew | apply St.alloc | apply St.allocR | apply St.putR); ((with_reducible exact ST.out); all_goals (first | rfl | (simp; done) | (simp; omega))))))) (by ((repeat (first | (with_reducible apply bel_drew) | (with_reducible apply bel_alloc) | ((with_reducible refine bel_put ?_ ?_); focus (first | omega | (simp; omega))))); with_reducible exact HB.out)) (by intro H; with_reducible exact Op2.run M1 (H.int (by with_reducible ((repeat ((fail_if_success exact mem0); apply List.mem_cons_of_mem)); exact mem0))) (H.int (by with_reducible ((repeat ((fail_if_success exact mem0); apply List.mem_cons_of_mem)); exact mem0)))) ?_; rintro e w45 ⟨⟨p45, v45, rfl, hv45, hb45⟩, H, G⟩; obtain ⟨r45s, hs45⟩ : ∃ sgn, sgn = decide (SK < 0) := ⟨_, rfl⟩; rw [← hs45]; have hi := And.intro hv45 hs45; obtain ⟨r45t, r45a, r45n, rfl, rfl, -, -, -, -, -, -⟩ := hv45.form; replace ST := Lib.hid ((H.call hb45).know hi); replace HB := Lib.hid (G.trans (hb45.mono G.size)); have hz45 := HB.out.size; clear hi H G hv45 hb45 hs45; (first | clear y0 y1 y2 y3 y4 y5 y6 y7 y8 | skip); (first | (with_reducible have ⟨⟨y0, y1, y2, y3, y4, y5⟩, y6, y7, y8⟩ := St.fresh1 ST.out) | skip)) | (go_at_call 165; refine St.armB (w := w) (by ((with_reducible iterate 4 try first | apply St.drew | apply St.alloc | apply St.allocR | apply St.putR); first | ((with_reducible exact ST.out); all_goals (first | rfl | (simp; done) | (simp; omega))) | ((with_reducible apply St.put0); ((with_reducible iterate 4 try first | apply St.drew | apply St.alloc | apply St.allocR | apply St.putR); ((with_reducible exact ST.out); all_goals (first | rfl | (simp; done) | (simp; omega))))) | ((with_reducible apply St.put1); ((with_reducible iterate 4 try first | apply St.drew | apply St.alloc | apply St.allocR | apply St.putR); ((with_reducible exact ST.out); all_goals (first | rfl | (simp; done) | (simp; omega))))))) (by ((repeat (first | (with_reducible apply bel_drew) | (with_reducible apply bel_alloc) | ((with_reducible refine bel_put ?_ ?_); focus (first | omega | (simp; omega))))); with_reducible exact HB.out)) (by intro H; with_reducible exact Op2.run M2 (H.int (by with_reducible ((repeat ((fail_if_success exact mem0); apply List.mem_cons_of_mem)); exact mem0))) (H.int (by with_reducible ((repeat ((fail_if_success exact mem0); apply List.mem_cons_of_mem)); exact mem0)))) ?_; rintro e w46 ⟨⟨p46, v46, rfl, hv46, hb46⟩, H, G⟩; obtain ⟨r46s, hs46⟩ : ∃ sgn, sgn = decide (S < 0) := ⟨_, rfl⟩; rw [← hs46]; have hi := And.intro hv46 hs46; obtain ⟨r46t, r46a, r46n, rfl, rfl, -, -, -, -, -, -⟩ := hv46.form; replace ST := Lib.hid ((H.call hb46).know hi); replace HB := Lib.hid (G.trans (hb46.mono G.size)); have hz46 := HB.out.size; clear hi H G hv46 hb46 hs46; (first | clear y0 y1 y2 y3 y4 y5 y6 y7 y8 | skip); (first | (with_reducible have ⟨⟨y0, y1, y2, y3, y4, y5⟩, y6, y7, y8⟩ := St.fresh1 ST.out) | skip)) | fail)
              all_goals (go_wp2_with fail; go_meet; case rel => (refine ⟨_, r46t, r46a, r46n, r46s, rfl, ?_, by ((repeat (first | (with_reducible apply bel_drew) | (with_reducible apply bel_alloc) | ((with_reducible refine bel_put ?_ ?_); focus (first | omega | (simp; omega))))); with_reducible exact HB.out)⟩; exact St.keep (by ((with_reducible iterate 4 try first | apply St.drew | apply St.alloc | apply St.allocR | apply St.putR); first | ((with_reducible exact ST.out); all_goals (first | rfl | (simp; done) | (simp; omega))) | ((with_reducible apply St.put0); ((with_reducible iterate 4 try first | apply St.drew | apply St.alloc | apply St.allocR | apply St.putR); ((with_reducible exact ST.out); all_goals (first | rfl | (simp; done) | (simp; omega))))) | ((with_reducible apply St.put1); ((with_reducible iterate 4 try first | apply St.drew | apply St.alloc | apply St.allocR | apply St.putR); ((with_reducible exact ST.out); all_goals (first | rfl | (simp; done) | (simp; omega))))))) (fun H => ((((((((H.bare.pick H (by with_reducible ((repeat ((fail_if_success exact mem0); apply List.mem_cons_of_mem)); exact mem0))).pick H (by with_reducible ((repeat ((fail_if_success exact mem0); apply List.mem_cons_of_mem)); exact mem0))).pick H (by with_reducible ((repeat ((fail_if_success exact mem0); apply List.mem_cons_of_mem)); exact mem0))).pick H (by with_reducible ((repeat ((fail_if_success exact mem0); apply List.mem_cons_of_mem)); exact mem0))).pick H (by with_reducible ((repeat ((fail_if_success exact mem0); apply List.mem_cons_of_mem)); exact mem0))).pick H (by with_reducible ((repeat ((fail_if_success exact mem0); apply List.mem_cons_of_mem)); exact mem0))).pick H (by with_reducible ((repeat ((fail_if_success exact mem0); apply List.mem_cons_of_mem)); exact mem0))).pick H (by with_reducible ((repeat ((fail_if_success exact mem0); apply List.mem_cons_of_mem)); exact mem0))))))
            case rest =>
              obtain ⟨k9, st, sa, sn, ss, rfl, hST, hB⟩ := hcut
              replace HO := Lib.hid (HO.out.kept hB)
              clear ST HB hB
              have ST := Lib.hid hST
              clear hST
              obtain ⟨c0, c1, c2, c3, c4, c5, c6, c7, c8, c9, c10, c11⟩ := ST.out.rats (w.heap.size, .int .u64 xt, .slice xa xn xn, xs, .int .u64 yt, .slice ya yn yn, ys) (by with_reducible ((repeat ((fail_if_success exact mem0); apply List.mem_cons_of_mem)); exact mem0))
              dsimp only at c0 c1 c2 c3 c4 c5 c6 c7 c8 c9 c10 c11
              obtain ⟨d0, d1, d2, d3, d4, d5, d6, d7, d8, d9, d10, d11⟩ := ST.out.rats (w.heap.size + 1, .int .u64 zt, .slice za zn zn, zs, .int .u64 rt, .slice ra rn rn, rs) (by with_reducible ((repeat ((fail_if_success exact mem0); apply List.mem_cons_of_mem)); exact mem0))
              dsimp only at d0 d1 d2 d3 d4 d5 d6 d7 d8 d9 d10 d11
              obtain ⟨e0, e1, e2⟩ := ST.out.num (k := k9) (by with_reducible ((repeat ((fail_if_success exact mem0); apply List.mem_cons_of_mem)); exact mem0))
              obtain ⟨g0, g1, g2⟩ := ST.out.num (k := k6 + 1) (by with_reducible ((repeat ((fail_if_success exact mem0); apply List.mem_cons_of_mem)); exact mem0))
              have ap1 := ST.out.apart (w.heap.size, .int .u64 xt, .slice xa xn xn, xs, .int .u64 yt, .slice ya yn yn, ys) (by with_reducible ((repeat ((fail_if_success exact mem0); apply List.mem_cons_of_mem)); exact mem0)) (k9, .int .u64 st, .slice sa sn sn, ss) (by with_reducible ((repeat ((fail_if_success exact mem0); apply List.mem_cons_of_mem)); exact mem0))
              have ap2 := ST.out.apart (w.heap.size + 1, .int .u64 zt, .slice za zn zn, zs, .int .u64 rt, .slice ra rn rn, rs) (by with_reducible ((repeat ((fail_if_success exact mem0); apply List.mem_cons_of_mem)); exact mem0)) (k9, .int .u64 st, .slice sa sn sn, ss) (by with_reducible ((repeat ((fail_if_success exact mem0); apply List.mem_cons_of_mem)); exact mem0))
              have ap3 := ST.out.apart (w.heap.size, .int .u64 xt, .slice xa xn xn, xs, .int .u64 yt, .slice ya yn yn, ys) (by with_reducible ((repeat ((fail_if_success exact mem0); apply List.mem_cons_of_mem)); exact mem0)) (k6 + 1, .int .u64 q5t, .slice q5a q5n q5n, q5s) (by with_reducible ((repeat ((fail_if_success exact mem0); apply List.mem_cons_of_mem)); exact mem0))
              have ap4 := ST.out.apart (w.heap.size + 1, .int .u64 zt, .slice za zn zn, zs, .int .u64 rt, .slice ra rn rn, rs) (by with_reducible ((repeat ((fail_if_success exact mem0); apply List.mem_cons_of_mem)); exact mem0)) (k6 + 1, .int .u64 q5t, .slice q5a q5n q5n, q5s) (by with_reducible ((repeat ((fail_if_success exact mem0); apply List.mem_cons_of_mem)); exact mem0))
              dsimp only at ap1 ap2 ap3 ap4
              have ap5 := Ne.symm ap1
              have ap6 := Ne.symm ap2
              have ap7 := Ne.symm ap3
              have ap8 := Ne.symm ap4
              go_upto_region 10 with fail
              go_region
              have HFa : v1.ownBlock ≠ some w.heap.size := fun e => (HF1.out _ e).1 rfl
              have HFb : v1.ownBlock ≠ some (w.heap.size + 1) := fun e => (HF1.out _ e).2.1 rfl
              have HO1 := HO.out.over6 (.int .u64 rt) (.slice ra rn rn) rs (.int .u64 st) (.slice sa sn sn) ss HFa ST.out (k := w.heap.size) (by with_reducible ((repeat ((fail_if_success exact mem0); apply List.mem_cons_of_mem)); exact mem0)) (ST.out.int (x := n) (by with_reducible ((repeat ((fail_if_success exact mem0); apply List.mem_cons_of_mem)); exact mem0))) (ST.out.int (x := d) (by with_reducible ((repeat ((fail_if_success exact mem0); apply List.mem_cons_of_mem)); exact mem0)))
              have ST1 := ST.out.rev3.overR (.int .u64 rt) (.slice ra rn rn) rs (.int .u64 st) (.slice sa sn sn) ss (ST.out.int (x := n) (by with_reducible ((repeat ((fail_if_success exact mem0); apply List.mem_cons_of_mem)); exact mem0))) (ST.out.int (x := d) (by with_reducible ((repeat ((fail_if_success exact mem0); apply List.mem_cons_of_mem)); exact mem0)))
              have HO2 := (HO1.over6 (.int .u64 yt) (.slice ya yn yn) ys (.int .u64 q5t) (.slice q5a q5n q5n) q5s HFb ST1 (k := w.heap.size + 1) (by with_reducible ((repeat ((fail_if_success exact mem0); apply List.mem_cons_of_mem)); exact mem0)) (ST1.int (x := m) (by with_reducible ((repeat ((fail_if_success exact mem0); apply List.mem_cons_of_mem)); exact mem0))) (ST1.int (x := k) (by with_reducible ((repeat ((fail_if_success exact mem0); apply List.mem_cons_of_mem)); exact mem0)))).drew
              have ST2 := ((ST1.swapR.overR (.int .u64 yt) (.slice ya yn yn) ys (.int .u64 q5t) (.slice q5a q5n q5n) q5s (ST1.int (x := m) (by with_reducible ((repeat ((fail_if_success exact mem0); apply List.mem_cons_of_mem)); exact mem0))) (ST1.int (x := k) (by with_reducible ((repeat ((fail_if_success exact mem0); apply List.mem_cons_of_mem)); exact mem0)))).swapR.rev3).drew
              obtain ⟨Wd, hW⟩ : ∃ Wd, Wd = (((((((((((((wc.setCell ⟨w.heap.size, 0, none⟩ (.int .u64 rt)).setCell ⟨w.heap.size, 1, none⟩ (.slice ra rn rn)).setCell ⟨w.heap.size, 2, none⟩ (.bool rs)).setCell ⟨w.heap.size, 3, none⟩ (.int .u64 st)).setCell ⟨w.heap.size, 4, none⟩ (.slice sa sn sn)).setCell ⟨w.heap.size, 5, none⟩ (.bool ss)).setCell ⟨(w.heap.size + 1), 0, none⟩ (.int .u64 yt)).setCell ⟨(w.heap.size + 1), 1, none⟩ (.slice ya yn yn)).setCell ⟨(w.heap.size + 1), 2, none⟩ (.bool ys)).setCell ⟨(w.heap.size + 1), 3, none⟩ (.int .u64 q5t)).setCell ⟨(w.heap.size + 1), 4, none⟩ (.slice q5a q5n q5n)).setCell ⟨(w.heap.size + 1), 5, none⟩ (.bool q5s))).drew := ⟨_, rfl⟩
              rw [← hW] at ST2 HO2
              rw [← hW]
              clear hW ST1 HO1 HFa HFb ap1 ap2 ap3 ap4 ap5 ap6 ap7 ap8 c0 c1 c2 c3 c4 c5 c6 c7 c8 c9 c10 c11 d0 d1 d2 d3 d4 d5 d6 d7 d8 d9 d10 d11 e0 e1 e2 g0 g1 g2
              clear ST HO
              have ST := Lib.hid ST2
              have HO := Lib.hid HO2
              clear ST2 HO2
              go_wp2
              go_roundg (gk - 1)
              case measure => have := HFU.out; omega
              case rel =>
            have r3 := R3.out
            have hs := HS.out
            have hfu := HFU.out
            have hl := HL0.out
            have hiv := r3.iv
            have hsk := r3.sk
            have hs0 := r3.s0
            have hrd := r3.rd
            have hr0 := r3.r0
            rw [hs] at hiv hl hsk hs0
            exact ⟨k, S, d, R, l ++ [Q], _, _, _, _, _, _, _, _, _, _, _, _, ST.out.sub (Z' := []) (N' := [(.int .u64 rt, .slice ra rn rn, rs, k), (.int .u64 st, .slice sa sn sn, ss, S), (.int .u64 yt, .slice ya yn yn, ys, d), (.int .u64 q5t, .slice q5a q5n q5n, q5s, R)]) (List.Sublist.refl _) (List.nil_sublist _) (by intro e he; simp only [List.mem_cons, List.not_mem_nil, or_false] at he; rcases he with rfl | rfl | rfl | rfl <;> exact (by with_reducible ((repeat ((fail_if_success exact mem0); apply List.mem_cons_of_mem)); exact mem0))), HO.out, HF1.out, hiv, by omega, hl, DN.out.2.2.2, Nat.le_trans (dn_mono (by omega) (show S ≤ k by omega)) DN.out.2.2.2, DN.out.2.1, Nat.le_trans (dn_mono (by omega) (show R ≤ d by omega)) DN.out.2.1⟩
      · have hdc : decide (m < T * k) = false := decide_eq_false hlt
        rw [hdc] at CL9
        clear hdc
        go_upto_region 6 with fail
        obtain ⟨Wb, hWb⟩ : ∃ Wb, Wb = w22 := ⟨_, rfl⟩
        have HB := Lib.hid (Below.refl w22.heap.size w22)
        rw [← hWb] at HB HO ST ⊢
        have hwb := hWb
        clear hWb hwb
        go_cut [30] from 26 to 54 (fun x30 W => x30 = .bool true ∧ St w W [(w.heap.size + 1 + 1, .int .u64 0, .slice none 0 0, false, .int .u64 0, .slice none 0 0, false), (w.heap.size + 1, .int .u64 zt, .slice za zn zn, zs, .int .u64 rt, .slice ra rn rn, rs), (w.heap.size, .int .u64 xt, .slice xa xn xn, xs, .int .u64 yt, .slice ya yn yn, ys)] [(k6 + 1 + 1, .int .u64 r5t, .slice r5a r5n r5n, r5s), (k6 + 1, .int .u64 q5t, .slice q5a q5n q5n, q5s), (k6, .int .u64 r5t, .slice r5a r5n r5n, r5s)] [(.int .u64 r5t, .slice r5a r5n r5n, r5s, T), (.int .u64 r5t, .slice r5a r5n r5n, r5s, Q), (.int .u64 q5t, .slice q5a q5n q5n, q5s, R), (.int .u64 xt, .slice xa xn xn, xs, n), (.int .u64 yt, .slice ya yn yn, ys, d), (.int .u64 zt, .slice za zn zn, zs, m), (.int .u64 rt, .slice ra rn rn, rs, k)] ∧ Below Wb.heap.size Wb W)
        case first =>
          go_region_held3 (fun W => (W.cell? ⟨w.heap.size + 1, 0, none⟩ = some (.int .u64 zt) ∧ W.cell? ⟨w.heap.size + 1, 1, none⟩ = some (.slice za zn zn) ∧ W.cell? ⟨w.heap.size + 1, 2, none⟩ = some (.bool zs) ∧ W.cell? ⟨w.heap.size + 1, 3, none⟩ = some (.int .u64 rt) ∧ W.cell? ⟨w.heap.size + 1, 4, none⟩ = some (.slice ra rn rn) ∧ W.cell? ⟨w.heap.size + 1, 5, none⟩ = some (.bool rs)) ∧ (W.cell? ⟨k6 + 1 + 1, 0, none⟩ = some (.int .u64 r5t) ∧ W.cell? ⟨k6 + 1 + 1, 1, none⟩ = some (.slice r5a r5n r5n) ∧ W.cell? ⟨k6 + 1 + 1, 2, none⟩ = some (.bool r5s))) (exact ⟨St.rat (w := w) (by ((with_reducible iterate 4 try first | apply St.drew | apply St.alloc | apply St.allocR | apply St.putR); ((with_reducible exact ST.out); all_goals (first | rfl | (simp; done) | (simp; omega))))) (by with_reducible ((repeat ((fail_if_success exact mem0); apply List.mem_cons_of_mem)); exact mem0)), St.num (w := w) (by ((with_reducible iterate 4 try first | apply St.drew | apply St.alloc | apply St.allocR | apply St.putR); ((with_reducible exact ST.out); all_goals (first | rfl | (simp; done) | (simp; omega))))) (by with_reducible ((repeat ((fail_if_success exact mem0); apply List.mem_cons_of_mem)); exact mem0))⟩) (first | (go_at_call 118; refine St.armB (w := w) (by ((with_reducible iterate 4 try first | apply St.drew | apply St.alloc | apply St.allocR | apply St.putR); ((with_reducible exact ST.out); all_goals (first | rfl | (simp; done) | (simp; omega))))) (by ((repeat (first | (with_reducible apply bel_drew) | (with_reducible apply bel_alloc) | ((with_reducible refine bel_put ?_ ?_); focus (first | omega | (simp; omega))))); with_reducible exact HB.out)) (by intro H; with_reducible exact fromWhole_any _ _ _ T _ (H.int (by with_reducible ((repeat ((fail_if_success exact mem0); apply List.mem_cons_of_mem)); exact mem0)))) ?_; rintro e w28 ⟨⟨p28, v28, o28, u28, rfl, hv28, hu28, hb28⟩, H, G⟩; obtain ⟨r28s, hs28⟩ : ∃ sgn, sgn = decide (T < 0) := ⟨_, rfl⟩; obtain ⟨q28s, ht28⟩ : ∃ sgn, sgn = decide ((1 : Int) < 0) := ⟨_, rfl⟩; rw [← hs28, ← ht28]; have hi := And.intro hv28 hs28; have hj := And.intro hu28 ht28; obtain ⟨r28t, r28a, r28n, rfl, rfl, -, -, -, -, -, -⟩ := hv28.form; obtain ⟨q28t, q28a, q28n, rfl, rfl, -, -, -, -, -, -⟩ := hu28.form; replace ST := Lib.hid (((H.call hb28).know hj).know hi); replace HB := Lib.hid (G.trans (hb28.mono G.size)); clear hi hj H G hv28 hu28 hb28 hs28 ht28) | (go_at_call 87; refine St.armB (w := w) (by ((with_reducible iterate 4 try first | apply St.drew | apply St.alloc | apply St.allocR | apply St.putR); ((with_reducible exact ST.out); all_goals (first | rfl | (simp; done) | (simp; omega))))) (by ((repeat (first | (with_reducible apply bel_drew) | (with_reducible apply bel_alloc) | ((with_reducible refine bel_put ?_ ?_); focus (first | omega | (simp; omega))))); with_reducible exact HB.out)) (by intro H; with_reducible exact CL9.run (H.int (x := m) (by with_reducible ((repeat ((fail_if_success exact mem0); apply List.mem_cons_of_mem)); exact mem0))) (H.int (x := k) (by with_reducible ((repeat ((fail_if_success exact mem0); apply List.mem_cons_of_mem)); exact mem0))) (H.int (x := T) (by with_reducible ((repeat ((fail_if_success exact mem0); apply List.mem_cons_of_mem)); exact mem0))) (H.int (x := 1) (by with_reducible ((repeat ((fail_if_success exact mem0); apply List.mem_cons_of_mem)); exact mem0)))) ?_; rintro e w29 ⟨⟨rfl, hb29⟩, H, G⟩; replace ST := Lib.hid (H.call hb29); replace HB := Lib.hid (G.trans (hb29.mono G.size)); clear H G hb29) | fail)
          all_goals (go_wp2_with fail; go_meet; case rel => (refine ⟨rfl, ?_, by ((repeat (first | (with_reducible apply bel_drew) | (with_reducible apply bel_alloc) | ((with_reducible refine bel_put ?_ ?_); focus (first | omega | (simp; omega))))); with_reducible exact HB.out)⟩; exact St.keep (by ((with_reducible iterate 4 try first | apply St.drew | apply St.alloc | apply St.allocR | apply St.putR); ((with_reducible exact ST.out); all_goals (first | rfl | (simp; done) | (simp; omega))))) (fun H => (((((((H.bare.pick H (by with_reducible ((repeat ((fail_if_success exact mem0); apply List.mem_cons_of_mem)); exact mem0))).pick H (by with_reducible ((repeat ((fail_if_success exact mem0); apply List.mem_cons_of_mem)); exact mem0))).pick H (by with_reducible ((repeat ((fail_if_success exact mem0); apply List.mem_cons_of_mem)); exact mem0))).pick H (by with_reducible ((repeat ((fail_if_success exact mem0); apply List.mem_cons_of_mem)); exact mem0))).pick H (by with_reducible ((repeat ((fail_if_success exact mem0); apply List.mem_cons_of_mem)); exact mem0))).pick H (by with_reducible ((repeat ((fail_if_success exact mem0); apply List.mem_cons_of_mem)); exact mem0))).pick H (by with_reducible ((repeat ((fail_if_success exact mem0); apply List.mem_cons_of_mem)); exact mem0))))))
        case rest =>
          obtain ⟨rfl, hST, hB⟩ := hcut
          replace HO := Lib.hid (HO.out.kept hB)
          clear ST HB hB
          have ST := Lib.hid hST
          clear hST
          have hst : sterms gk n d m k = [T] := by
              obtain ⟨g, hg⟩ : ∃ g, gk = g + 1 := ⟨gk - 1, by have := HFU.out; omega⟩
              rw [hg, sterms_end (by rw [HT.out]; have := hlt; omega), HT.out]
          have hL0 : L0 = l ++ [T] := by rw [HL.out, hst]
          have hlen : l.length ≤ 1000000000000 := by have := TM.out.len; rw [hL0] at this; simp at this; omega
          have HL0 := Lib.hid hL0
          clear hst hL0
          obtain ⟨e0, e1, e2⟩ := ST.out.num (k := k6 + 1 + 1) (by with_reducible ((repeat ((fail_if_success exact mem0); apply List.mem_cons_of_mem)); exact mem0))
          go_wp2_with (at_builtin; refine wpList_append_z _ rfl _ _ rfl w.heap.size _ l rfl HO.out.alloc ?c1 hlen ⟨wc.heap.size, 0, none⟩ 1 rfl (.int .u64 r5t) (.slice r5a r5n r5n) r5s T ?c2 ?c3 ?c4 ?c5 ?_)
          case c1 => have := ST.out.below.size; simp; omega
          try (case c2 => simp [Addr.add])
          try (case c3 => simp [Addr.add])
          try (case c4 => simp [Addr.add])
          case c5 => exact (ST.out.int (x := T) (by with_reducible ((repeat ((fail_if_success exact mem0); apply List.mem_cons_of_mem)); exact mem0))).below (alloc_below _ _)
          · intro v1 w1 ho hg hbk hI
            have STa := ST.out.call (alloc_below wc (.cells #[.int .u64 r5t, .slice r5a r5n r5n, .bool r5s] 74))
            have STb := STa.grown hg (fun j hj => (HO.out.lt j hj).1) (by
                intro e he hj
                have hf := HF.out _ hj
                simp only [List.mem_cons, List.not_mem_nil, or_false] at he
                rcases he with rfl | rfl | rfl
                · exact hf.2.2 rfl
                · exact hf.2.1 rfl
                · exact hf.1 rfl) (by
                intro e he hj
                have hk := HK.out _ hj
                simp only [List.mem_cons, List.not_mem_nil, or_false] at he
                rcases he with rfl | rfl | rfl <;> (dsimp only at hk; omega)) hI
            clear ST
            replace ST := Lib.hid STb
            clear STa STb hg hbk hI e0 e1 e2
            replace HO := Lib.hid ho
            clear ho
            go_wp2_with fail
            refine St.arm (w := w) (by exact ST.out) (by intro _; exact CO.out _ _ (by rw [HL0.out]; exact HO.out.numL)) ?_
            rintro e w35 ⟨⟨p35, v35, o35, u35, rfl, hv35, hu35, hb35⟩, H⟩
            obtain ⟨r35s, hs35⟩ : ∃ sgn, sgn = decide (X1 < 0) := ⟨_, rfl⟩
            obtain ⟨q35s, ht35⟩ : ∃ sgn, sgn = decide (X2 < 0) := ⟨_, rfl⟩
            rw [← hs35, ← ht35]
            have hi := And.intro hv35 hs35
            have hj := And.intro hu35 ht35
            obtain ⟨r35t, r35a, r35n, rfl, rfl, -, -, -, -, -, -⟩ := hv35.form
            obtain ⟨q35t, q35a, q35n, rfl, rfl, -, -, -, -, -, -⟩ := hu35.form
            replace ST := Lib.hid (((H.call hb35).know hj).know hi)
            clear hi hj hv35 hu35 hb35 hs35 ht35
            clear H
            obtain ⟨q0, q1, q2, q3, q4, q5, q6, q7, q8, q9, q10, q11⟩ := ST.out.rats (w.heap.size + 1 + 1, .int .u64 0, .slice none 0 0, false, .int .u64 0, .slice none 0 0, false) (by with_reducible ((repeat ((fail_if_success exact mem0); apply List.mem_cons_of_mem)); exact mem0))
            dsimp only at q0 q1 q2 q3 q4 q5 q6 q7 q8 q9 q10 q11
            go_wp2
            exact bodyPost_ret (v := .agg #[.int .u64 r35t, .slice r35a r35n r35n, .bool r35s, .int .u64 q35t, .slice q35a q35n q35n, .bool q35s]) (by simp [results, Tryz.results125, go_sem, q0, q1, q2, q3, q4, q5]) rfl (ST.out.giveR (k := w.heap.size + 1 + 1) (by with_reducible ((repeat ((fail_if_success exact mem0); apply List.mem_cons_of_mem)); exact mem0)) (by omega) (by with_reducible ((repeat ((fail_if_success exact mem0); apply List.mem_cons_of_mem)); exact mem0)) (by with_reducible ((repeat ((fail_if_success exact mem0); apply List.mem_cons_of_mem)); exact mem0)))
    · obtain ⟨d0, d1, d2⟩ := ST.out.num (k := k6 + 1) (by with_reducible ((repeat ((fail_if_success exact mem0); apply List.mem_cons_of_mem)); exact mem0))
      go_wp2_with fail
      refine St.armB (w := w) (b := W6) (by exact ST.out) (Below.refl W6.heap.size W6) (by intro H; exact zero_not hR0 (H.int (x := R) (by with_reducible ((repeat ((fail_if_success exact mem0); apply List.mem_cons_of_mem)); exact mem0)))) ?_
      rintro e w22 ⟨⟨rfl, hb22⟩, H, -⟩
      replace ST := Lib.hid (H.call hb22)
      replace HO := Lib.hid (HO.out.kept hb22)
      clear hb22 H d0 d1 d2
      obtain ⟨T, hT⟩ : ∃ T, Q + 1 = T := ⟨_, rfl⟩
      have HT := Lib.hid (show (if n.fmod d = 0 then n.fdiv d else n.fdiv d + 1) = T from by rw [HR.out, HQ.out, if_neg hR0, hT])
      have hQd : dn Q ≤ 1000 := by rw [← HQ.out]; exact fdiv_dk (by omega) DN.out.1
      have hTd : dn T ≤ 1001 := by rw [← hT]; exact dn_plus hQd (by rw [dn_one]; omega)
      have T9 : nl T.natAbs ≤ 20000 := nlp hTd (by omega)
      have P1 := Op2.plus hT (Nat.le_trans (nlp hQd (by omega)) (by omega)) (Nat.le_trans (nl_small (by decide)) (by decide))
      clear hT hQd
      have hne8 : u5.ownBlock ≠ some (k6 + 1 + 1) := fun e => by have := HK.out _ e; omega
      go_upto_region 5 with fail
      (first | clear q0 q1 q2 q3 q4 q5 | skip); obtain ⟨q0, q1, q2, q3, q4, q5⟩ := ST.out.nums (k6 + 1 + 1, .int .u64 r5t, .slice r5a r5n r5n, r5s) (by with_reducible ((repeat ((fail_if_success exact mem0); apply List.mem_cons_of_mem)); exact mem0)); dsimp only at q0 q1 q2 q3 q4 q5; (first | clear g0 g1 g2 | skip); obtain ⟨g0, g1, g2⟩ := ST.out.num (k := k6) (by with_reducible ((repeat ((fail_if_success exact mem0); apply List.mem_cons_of_mem)); exact mem0))
      have HB := Lib.hid (Below.refl w22.heap.size w22)
      go_cut [] from 23 to 54 (fun W => ∃ tt ta tn ts, St w W [(w.heap.size + 1 + 1, .int .u64 0, .slice none 0 0, false, .int .u64 0, .slice none 0 0, false), (w.heap.size + 1, .int .u64 zt, .slice za zn zn, zs, .int .u64 rt, .slice ra rn rn, rs), (w.heap.size, .int .u64 xt, .slice xa xn xn, xs, .int .u64 yt, .slice ya yn yn, ys)] [(k6 + 1 + 1, .int .u64 tt, .slice ta tn tn, ts), (k6 + 1, .int .u64 q5t, .slice q5a q5n q5n, q5s), (k6, .int .u64 r5t, .slice r5a r5n r5n, r5s)] [(.int .u64 tt, .slice ta tn tn, ts, T), (.int .u64 r5t, .slice r5a r5n r5n, r5s, Q), (.int .u64 q5t, .slice q5a q5n q5n, q5s, R), (.int .u64 xt, .slice xa xn xn, xs, n), (.int .u64 yt, .slice ya yn yn, ys, d), (.int .u64 zt, .slice za zn zn, zs, m), (.int .u64 rt, .slice ra rn rn, rs, k)] ∧ OwnL W w.heap.size u5 l)
      case first =>
        go_region_with (first | (go_at_call 139; refine St.armB (w := w) (by ((with_reducible iterate 4 try first | apply St.drew | apply St.alloc | apply St.allocR | apply St.putR); ((with_reducible exact ST.out); all_goals (first | rfl | (simp; done) | (simp; omega))))) (by ((repeat (first | (with_reducible apply bel_drew) | (with_reducible apply bel_alloc) | ((with_reducible refine bel_put ?_ ?_); focus (first | omega | (simp; omega))))); with_reducible exact HB.out)) (by intro H; with_reducible exact OfZ_any 1 _ (by decide) (by decide)) ?_; rintro e w24 ⟨⟨p24, v24, rfl, hv24, hb24⟩, H, G⟩; obtain ⟨r24s, hs24⟩ : ∃ sgn, sgn = decide ((1 : Int) < 0) := ⟨_, rfl⟩; rw [← hs24]; have hi := And.intro hv24 hs24; obtain ⟨r24t, r24a, r24n, rfl, rfl, -, -, -, -, -, -⟩ := hv24.form; replace ST := Lib.hid ((H.call hb24).know hi); replace HB := Lib.hid (G.trans (hb24.mono G.size)); have hz24 := HB.out.size; clear hi H G hv24 hb24 hs24; (first | clear q0 q1 q2 q3 q4 q5 | skip); obtain ⟨q0, q1, q2, q3, q4, q5⟩ := ST.out.nums (k6 + 1 + 1, .int .u64 r5t, .slice r5a r5n r5n, r5s) (by with_reducible ((repeat ((fail_if_success exact mem0); apply List.mem_cons_of_mem)); exact mem0)); dsimp only at q0 q1 q2 q3 q4 q5; (first | clear g0 g1 g2 | skip); obtain ⟨g0, g1, g2⟩ := ST.out.num (k := k6) (by with_reducible ((repeat ((fail_if_success exact mem0); apply List.mem_cons_of_mem)); exact mem0))) | (go_at_call 148; refine St.armB (w := w) (by ((with_reducible iterate 4 try first | apply St.drew | apply St.alloc | apply St.allocR | apply St.putR); ((with_reducible exact ST.out); all_goals (first | rfl | (simp; done) | (simp; omega))))) (by ((repeat (first | (with_reducible apply bel_drew) | (with_reducible apply bel_alloc) | ((with_reducible refine bel_put ?_ ?_); focus (first | omega | (simp; omega))))); with_reducible exact HB.out)) (by intro H; with_reducible exact Op2.run P1 (H.int (x := Q) (by with_reducible ((repeat ((fail_if_success exact mem0); apply List.mem_cons_of_mem)); exact mem0))) (H.int (x := 1) (by with_reducible ((repeat ((fail_if_success exact mem0); apply List.mem_cons_of_mem)); exact mem0)))) ?_; rintro e w25 ⟨⟨p25, v25, rfl, hv25, hb25⟩, H, G⟩; obtain ⟨r25s, hs25⟩ : ∃ sgn, sgn = decide (T < 0) := ⟨_, rfl⟩; rw [← hs25]; have hi := And.intro hv25 hs25; obtain ⟨r25t, r25a, r25n, rfl, rfl, -, -, -, -, -, -⟩ := hv25.form; replace ST := Lib.hid ((H.call hb25).know hi); replace HB := Lib.hid (G.trans (hb25.mono G.size)); have hz25 := HB.out.size; clear hi H G hv25 hb25 hs25; (first | clear q0 q1 q2 q3 q4 q5 | skip); obtain ⟨q0, q1, q2, q3, q4, q5⟩ := ST.out.nums (k6 + 1 + 1, .int .u64 r5t, .slice r5a r5n r5n, r5s) (by with_reducible ((repeat ((fail_if_success exact mem0); apply List.mem_cons_of_mem)); exact mem0)); dsimp only at q0 q1 q2 q3 q4 q5; (first | clear g0 g1 g2 | skip); obtain ⟨g0, g1, g2⟩ := ST.out.num (k := k6) (by with_reducible ((repeat ((fail_if_success exact mem0); apply List.mem_cons_of_mem)); exact mem0))) | fail)
        all_goals (go_wp2_with fail; go_meet; case rel => (have ST5 : St w w25 [(w.heap.size + 1 + 1, .int .u64 0, .slice none 0 0, false, .int .u64 0, .slice none 0 0, false), (w.heap.size + 1, .int .u64 zt, .slice za zn zn, zs, .int .u64 rt, .slice ra rn rn, rs), (w.heap.size, .int .u64 xt, .slice xa xn xn, xs, .int .u64 yt, .slice ya yn yn, ys)] [(k6 + 1 + 1, .int .u64 r5t, .slice r5a r5n r5n, r5s), (k6 + 1, .int .u64 q5t, .slice q5a q5n q5n, q5s), (k6, .int .u64 r5t, .slice r5a r5n r5n, r5s)] [(.int .u64 r25t, .slice r25a r25n r25n, r25s, T), (.int .u64 r5t, .slice r5a r5n r5n, r5s, Q), (.int .u64 q5t, .slice q5a q5n q5n, q5s, R), (.int .u64 xt, .slice xa xn xn, xs, n), (.int .u64 yt, .slice ya yn yn, ys, d), (.int .u64 zt, .slice za zn zn, zs, m), (.int .u64 rt, .slice ra rn rn, rs, k)] := (((((((ST.out.bare.pick ST.out (by with_reducible ((repeat ((fail_if_success exact mem0); apply List.mem_cons_of_mem)); exact mem0))).pick ST.out (by with_reducible ((repeat ((fail_if_success exact mem0); apply List.mem_cons_of_mem)); exact mem0))).pick ST.out (by with_reducible ((repeat ((fail_if_success exact mem0); apply List.mem_cons_of_mem)); exact mem0))).pick ST.out (by with_reducible ((repeat ((fail_if_success exact mem0); apply List.mem_cons_of_mem)); exact mem0))).pick ST.out (by with_reducible ((repeat ((fail_if_success exact mem0); apply List.mem_cons_of_mem)); exact mem0))).pick ST.out (by with_reducible ((repeat ((fail_if_success exact mem0); apply List.mem_cons_of_mem)); exact mem0))).pick ST.out (by with_reducible ((repeat ((fail_if_success exact mem0); apply List.mem_cons_of_mem)); exact mem0))); exact ⟨r25t, r25a, r25n, r25s, ST5.overN (p := .int .u64 r5t) (v := .slice r5a r5n r5n) (b := r5s) (y := Q) (by with_reducible ((repeat ((fail_if_success exact mem0); apply List.mem_cons_of_mem)); exact mem0)), OwnL.over3 _ _ _ (HO.out.kept HB.out) hne8 ST5 (k := k6 + 1 + 1) (p0 := .int .u64 r5t) (v0 := .slice r5a r5n r5n) (b0 := r5s) (x := Q) (by with_reducible ((repeat ((fail_if_success exact mem0); apply List.mem_cons_of_mem)); exact mem0)) (ST5.int (by with_reducible ((repeat ((fail_if_success exact mem0); apply List.mem_cons_of_mem)); exact mem0)))⟩))
      case rest =>
        obtain ⟨tt, ta, tn, ts, hST, hO⟩ := hcut
        clear ST HB HO
        have ST := Lib.hid hST
        have HO := Lib.hid hO
        clear hST hO
        have CL9 := lessR_run (x := m) (y := k) (z := T) (r := 1) m9 k9 T9 (Nat.le_trans (nl_small (by decide)) (by decide))
        rw [Int.mul_one] at CL9
        by_cases hlt : m < T * k
        · have hdc : decide (m < T * k) = true := decide_eq_true hlt
          rw [hdc] at CL9
          clear hdc
          go_upto_region 6 with fail
          obtain ⟨Wb, hWb⟩ : ∃ Wb, Wb = wc := ⟨_, rfl⟩
          have HB := Lib.hid (Below.refl wc.heap.size wc)
          rw [← hWb] at HB HO ST ⊢
          have hwb := hWb
          clear hWb hwb
          go_cut [30] from 26 to 54 (fun x30 W => x30 = .bool false ∧ St w W [(w.heap.size + 1 + 1, .int .u64 0, .slice none 0 0, false, .int .u64 0, .slice none 0 0, false), (w.heap.size + 1, .int .u64 zt, .slice za zn zn, zs, .int .u64 rt, .slice ra rn rn, rs), (w.heap.size, .int .u64 xt, .slice xa xn xn, xs, .int .u64 yt, .slice ya yn yn, ys)] [(k6 + 1 + 1, .int .u64 tt, .slice ta tn tn, ts), (k6 + 1, .int .u64 q5t, .slice q5a q5n q5n, q5s), (k6, .int .u64 r5t, .slice r5a r5n r5n, r5s)] [(.int .u64 tt, .slice ta tn tn, ts, T), (.int .u64 r5t, .slice r5a r5n r5n, r5s, Q), (.int .u64 q5t, .slice q5a q5n q5n, q5s, R), (.int .u64 xt, .slice xa xn xn, xs, n), (.int .u64 yt, .slice ya yn yn, ys, d), (.int .u64 zt, .slice za zn zn, zs, m), (.int .u64 rt, .slice ra rn rn, rs, k)] ∧ Below Wb.heap.size Wb W)
          case first =>
            go_region_held3 (fun W => (W.cell? ⟨w.heap.size + 1, 0, none⟩ = some (.int .u64 zt) ∧ W.cell? ⟨w.heap.size + 1, 1, none⟩ = some (.slice za zn zn) ∧ W.cell? ⟨w.heap.size + 1, 2, none⟩ = some (.bool zs) ∧ W.cell? ⟨w.heap.size + 1, 3, none⟩ = some (.int .u64 rt) ∧ W.cell? ⟨w.heap.size + 1, 4, none⟩ = some (.slice ra rn rn) ∧ W.cell? ⟨w.heap.size + 1, 5, none⟩ = some (.bool rs)) ∧ (W.cell? ⟨k6 + 1 + 1, 0, none⟩ = some (.int .u64 tt) ∧ W.cell? ⟨k6 + 1 + 1, 1, none⟩ = some (.slice ta tn tn) ∧ W.cell? ⟨k6 + 1 + 1, 2, none⟩ = some (.bool ts))) (exact ⟨St.rat (w := w) (by ((with_reducible iterate 4 try first | apply St.drew | apply St.alloc | apply St.allocR | apply St.putR); ((with_reducible exact ST.out); all_goals (first | rfl | (simp; done) | (simp; omega))))) (by with_reducible ((repeat ((fail_if_success exact mem0); apply List.mem_cons_of_mem)); exact mem0)), St.num (w := w) (by ((with_reducible iterate 4 try first | apply St.drew | apply St.alloc | apply St.allocR | apply St.putR); ((with_reducible exact ST.out); all_goals (first | rfl | (simp; done) | (simp; omega))))) (by with_reducible ((repeat ((fail_if_success exact mem0); apply List.mem_cons_of_mem)); exact mem0))⟩) (first | (go_at_call 118; refine St.armB (w := w) (by ((with_reducible iterate 4 try first | apply St.drew | apply St.alloc | apply St.allocR | apply St.putR); ((with_reducible exact ST.out); all_goals (first | rfl | (simp; done) | (simp; omega))))) (by ((repeat (first | (with_reducible apply bel_drew) | (with_reducible apply bel_alloc) | ((with_reducible refine bel_put ?_ ?_); focus (first | omega | (simp; omega))))); with_reducible exact HB.out)) (by intro H; with_reducible exact fromWhole_any _ _ _ T _ (H.int (by with_reducible ((repeat ((fail_if_success exact mem0); apply List.mem_cons_of_mem)); exact mem0)))) ?_; rintro e w28 ⟨⟨p28, v28, o28, u28, rfl, hv28, hu28, hb28⟩, H, G⟩; obtain ⟨r28s, hs28⟩ : ∃ sgn, sgn = decide (T < 0) := ⟨_, rfl⟩; obtain ⟨q28s, ht28⟩ : ∃ sgn, sgn = decide ((1 : Int) < 0) := ⟨_, rfl⟩; rw [← hs28, ← ht28]; have hi := And.intro hv28 hs28; have hj := And.intro hu28 ht28; obtain ⟨r28t, r28a, r28n, rfl, rfl, -, -, -, -, -, -⟩ := hv28.form; obtain ⟨q28t, q28a, q28n, rfl, rfl, -, -, -, -, -, -⟩ := hu28.form; replace ST := Lib.hid (((H.call hb28).know hj).know hi); replace HB := Lib.hid (G.trans (hb28.mono G.size)); clear hi hj H G hv28 hu28 hb28 hs28 ht28) | (go_at_call 87; refine St.armB (w := w) (by ((with_reducible iterate 4 try first | apply St.drew | apply St.alloc | apply St.allocR | apply St.putR); ((with_reducible exact ST.out); all_goals (first | rfl | (simp; done) | (simp; omega))))) (by ((repeat (first | (with_reducible apply bel_drew) | (with_reducible apply bel_alloc) | ((with_reducible refine bel_put ?_ ?_); focus (first | omega | (simp; omega))))); with_reducible exact HB.out)) (by intro H; with_reducible exact CL9.run (H.int (x := m) (by with_reducible ((repeat ((fail_if_success exact mem0); apply List.mem_cons_of_mem)); exact mem0))) (H.int (x := k) (by with_reducible ((repeat ((fail_if_success exact mem0); apply List.mem_cons_of_mem)); exact mem0))) (H.int (x := T) (by with_reducible ((repeat ((fail_if_success exact mem0); apply List.mem_cons_of_mem)); exact mem0))) (H.int (x := 1) (by with_reducible ((repeat ((fail_if_success exact mem0); apply List.mem_cons_of_mem)); exact mem0)))) ?_; rintro e w29 ⟨⟨rfl, hb29⟩, H, G⟩; replace ST := Lib.hid (H.call hb29); replace HB := Lib.hid (G.trans (hb29.mono G.size)); clear H G hb29) | fail)
            all_goals (go_wp2_with fail; go_meet; case rel => (refine ⟨rfl, ?_, by ((repeat (first | (with_reducible apply bel_drew) | (with_reducible apply bel_alloc) | ((with_reducible refine bel_put ?_ ?_); focus (first | omega | (simp; omega))))); with_reducible exact HB.out)⟩; exact St.keep (by ((with_reducible iterate 4 try first | apply St.drew | apply St.alloc | apply St.allocR | apply St.putR); ((with_reducible exact ST.out); all_goals (first | rfl | (simp; done) | (simp; omega))))) (fun H => (((((((H.bare.pick H (by with_reducible ((repeat ((fail_if_success exact mem0); apply List.mem_cons_of_mem)); exact mem0))).pick H (by with_reducible ((repeat ((fail_if_success exact mem0); apply List.mem_cons_of_mem)); exact mem0))).pick H (by with_reducible ((repeat ((fail_if_success exact mem0); apply List.mem_cons_of_mem)); exact mem0))).pick H (by with_reducible ((repeat ((fail_if_success exact mem0); apply List.mem_cons_of_mem)); exact mem0))).pick H (by with_reducible ((repeat ((fail_if_success exact mem0); apply List.mem_cons_of_mem)); exact mem0))).pick H (by with_reducible ((repeat ((fail_if_success exact mem0); apply List.mem_cons_of_mem)); exact mem0))).pick H (by with_reducible ((repeat ((fail_if_success exact mem0); apply List.mem_cons_of_mem)); exact mem0))))))
          case rest =>
            obtain ⟨rfl, hST, hB⟩ := hcut
            replace HO := Lib.hid (HO.out.kept hB)
            clear ST HB hB
            have ST := Lib.hid hST
            clear hST
            have R3 := HIV.out.round (by rw [HT.out]; have := hlt; omega)
            rw [HQ.out, HR.out] at R3
            have hst : sterms gk n d m k = Q :: sterms (gk - 1) k (m - Q * k) d R := by
                obtain ⟨g, hg⟩ : ∃ g, gk = g + 1 := ⟨gk - 1, by have := HFU.out; omega⟩
                rw [hg, sterms_go (by rw [HT.out]; have := hlt; omega), HQ.out, HR.out]
                rfl
            have hL0 : L0 = (l ++ [Q]) ++ sterms (gk - 1) k (m - Q * k) d R := by rw [HL.out, hst]; simp
            have hlen : l.length ≤ 1000000000000 := by have := TM.out.len; rw [hL0] at this; simp at this; omega
            have HL0 := Lib.hid hL0
            have R3 := Lib.hid R3
            clear hst hL0
            obtain ⟨e0, e1, e2⟩ := ST.out.num (k := k6) (by with_reducible ((repeat ((fail_if_success exact mem0); apply List.mem_cons_of_mem)); exact mem0))
            go_wp2_with (at_builtin; refine wpList_append_z _ rfl _ _ rfl w.heap.size _ l rfl HO.out.alloc ?c1 hlen ⟨wc.heap.size, 0, none⟩ 1 rfl (.int .u64 r5t) (.slice r5a r5n r5n) r5s Q ?c2 ?c3 ?c4 ?c5 ?_)
            case c1 => have := ST.out.below.size; simp; omega
            try (case c2 => simp [Addr.add])
            try (case c3 => simp [Addr.add])
            try (case c4 => simp [Addr.add])
            case c5 => exact (ST.out.int (x := Q) (by with_reducible ((repeat ((fail_if_success exact mem0); apply List.mem_cons_of_mem)); exact mem0))).below (alloc_below _ _)
            · intro v1 w1 ho hg hbk hI
              have STa := ST.out.call (alloc_below wc (.cells #[.int .u64 r5t, .slice r5a r5n r5n, .bool r5s] 74))
              have STb := STa.grown hg (fun j hj => (HO.out.lt j hj).1) (by
                  intro e he hj
                  have hf := HF.out _ hj
                  simp only [List.mem_cons, List.not_mem_nil, or_false] at he
                  rcases he with rfl | rfl | rfl
                  · exact hf.2.2 rfl
                  · exact hf.2.1 rfl
                  · exact hf.1 rfl) (by
                  intro e he hj
                  have hk := HK.out _ hj
                  simp only [List.mem_cons, List.not_mem_nil, or_false] at he
                  rcases he with rfl | rfl | rfl <;> (dsimp only at hk; omega)) hI
              have hz1 := (STa.rats (w.heap.size + 1 + 1, .int .u64 0, .slice none 0 0, false, .int .u64 0, .slice none 0 0, false) (by with_reducible ((repeat ((fail_if_success exact mem0); apply List.mem_cons_of_mem)); exact mem0))).lt
              dsimp only at hz1
              have HF1 := Lib.hid (show ∀ j, v1.ownBlock = some j → j ≠ w.heap.size ∧ j ≠ w.heap.size + 1 ∧ j ≠ w.heap.size + 1 + 1 from fun j hj => by
                  rcases hbk j hj with h | h
                  · exact HF.out j h
                  · first | omega | (simp only [World.size_alloc] at hz1 h; omega))
              clear ST HF hz1
              replace ST := Lib.hid STb
              clear STa STb hg hbk hI e0 e1 e2
              replace HO := Lib.hid ho
              clear ho
              obtain ⟨SK, hSK⟩ : ∃ s, Q * k = s := ⟨_, rfl⟩
              obtain ⟨S, hS⟩ : ∃ s, m - SK = s := ⟨_, rfl⟩
              have hQd : dn Q ≤ 1000 := by rw [← HQ.out]; exact fdiv_dk (by omega) DN.out.1
              have hSKd : dn SK ≤ 2000 := by rw [← hSK]; exact dn_times (j := 1000) (k := 1000) hQd DN.out.2.2.2 (by omega)
              have M1 := Op2.times hSK (Nat.le_trans (nlp hQd (by omega)) (by omega)) (Nat.le_trans k9 (by omega))
              have M2 := Op2.minus hS (Nat.le_trans m9 (by omega)) (Nat.le_trans (nlp hSKd (by omega)) (by omega))
              have HS := Lib.hid (show m - Q * k = S from by rw [hSK]; exact hS)
              clear hSK hS hQd hSKd
              go_upto_region 9 with fail
              have HB := Lib.hid (Below.refl w1.heap.size w1)
              have hz0 : w1.heap.size ≤ w1.heap.size := Nat.le_refl _
              go_cut [9] from 40 to 54 (fun x9 W => ∃ k9 st sa sn ss, x9 = .pointer (some ⟨k9, 0, none⟩) ∧ St w W [(w.heap.size + 1 + 1, .int .u64 0, .slice none 0 0, false, .int .u64 0, .slice none 0 0, false), (w.heap.size + 1, .int .u64 zt, .slice za zn zn, zs, .int .u64 rt, .slice ra rn rn, rs), (w.heap.size, .int .u64 xt, .slice xa xn xn, xs, .int .u64 yt, .slice ya yn yn, ys)] [(k9, .int .u64 st, .slice sa sn sn, ss), (k6 + 1 + 1, .int .u64 tt, .slice ta tn tn, ts), (k6 + 1, .int .u64 q5t, .slice q5a q5n q5n, q5s), (k6, .int .u64 r5t, .slice r5a r5n r5n, r5s)] [(.int .u64 st, .slice sa sn sn, ss, S), (.int .u64 tt, .slice ta tn tn, ts, T), (.int .u64 r5t, .slice r5a r5n r5n, r5s, Q), (.int .u64 q5t, .slice q5a q5n q5n, q5s, R), (.int .u64 xt, .slice xa xn xn, xs, n), (.int .u64 yt, .slice ya yn yn, ys, d), (.int .u64 zt, .slice za zn zn, zs, m), (.int .u64 rt, .slice ra rn rn, rs, k)] ∧ Below w1.heap.size w1 W)
              case first =>
                go_region_held3 (fun W => (W.cell? ⟨w.heap.size + 1, 0, none⟩ = some (.int .u64 zt) ∧ W.cell? ⟨w.heap.size + 1, 1, none⟩ = some (.slice za zn zn) ∧ W.cell? ⟨w.heap.size + 1, 2, none⟩ = some (.bool zs) ∧ W.cell? ⟨w.heap.size + 1, 3, none⟩ = some (.int .u64 rt) ∧ W.cell? ⟨w.heap.size + 1, 4, none⟩ = some (.slice ra rn rn) ∧ W.cell? ⟨w.heap.size + 1, 5, none⟩ = some (.bool rs)) ∧ (W.cell? ⟨k6, 0, none⟩ = some (.int .u64 r5t) ∧ W.cell? ⟨k6, 1, none⟩ = some (.slice r5a r5n r5n) ∧ W.cell? ⟨k6, 2, none⟩ = some (.bool r5s))) (exact ⟨St.rat (w := w) (by ((with_reducible iterate 4 try first | apply St.drew | apply St.alloc | apply St.allocR | apply St.putR); first | ((with_reducible exact ST.out); all_goals (first | rfl | (simp; done) | (simp; omega))) | ((with_reducible apply St.put0); ((with_reducible iterate 4 try first | apply St.drew | apply St.alloc | apply St.allocR | apply St.putR); ((with_reducible exact ST.out); all_goals (first | rfl | (simp; done) | (simp; omega))))) | ((with_reducible apply St.put1); ((with_reducible iterate 4 try first | apply St.drew | apply St.alloc | apply St.allocR | apply St.putR); ((with_reducible exact ST.out); all_goals (first | rfl | (simp; done) | (simp; omega))))))) (by with_reducible ((repeat ((fail_if_success exact mem0); apply List.mem_cons_of_mem)); exact mem0)), St.num (w := w) (by ((with_reducible iterate 4 try first | apply St.drew | apply St.alloc | apply St.allocR | apply St.putR); first | ((with_reducible exact ST.out); all_goals (first | rfl | (simp; done) | (simp; omega))) | ((with_reducible apply St.put0); ((with_reducible iterate 4 try first | apply St.drew | apply St.alloc | apply St.allocR | apply St.putR); ((with_reducible exact ST.out); all_goals (first | rfl | (simp; done) | (simp; omega))))) | ((with_reducible apply St.put1); ((with_reducible iterate 4 try first | apply St.drew | apply St.alloc | apply St.allocR | apply St.putR); ((with_reducible exact ST.out); all_goals (first | rfl | (simp; done) | (simp; omega))))))) (by with_reducible ((repeat ((fail_if_success exact mem0); apply List.mem_cons_of_mem)); exact mem0))⟩) (first | (go_at_call 134; refine St.armB (w := w) (by ((with_reducible iterate 4 try first | apply St.drew | apply St.alloc | apply St.allocR | apply St.putR); first | ((with_reducible exact ST.out); all_goals (first | rfl | (simp; done) | (simp; omega))) | ((with_reducible apply St.put0); ((with_reducible iterate 4 try first | apply St.drew | apply St.alloc | apply St.allocR | apply St.putR); ((with_reducible exact ST.out); all_goals (first | rfl | (simp; done) | (simp; omega))))) | ((with_reducible apply St.put1); ((with_reducible iterate 4 try first | apply St.drew | apply St.alloc | apply St.allocR | apply St.putR); ((with_reducible exact ST.out); all_goals (first | rfl | (simp; done) | (simp; omega))))))) (by ((repeat (first | (with_reducible apply bel_drew) | (with_reducible apply bel_alloc) | ((with_reducible refine bel_put ?_ ?_); focus (first | omega | (simp; omega))))); with_reducible exact HB.out)) (by intro H; with_reducible exact Op2.run M1 (H.int (by with_reducible ((repeat ((fail_if_success exact mem0); apply List.mem_cons_of_mem)); exact mem0))) (H.int (by with_reducible ((repeat ((fail_if_success exact mem0); apply List.mem_cons_of_mem)); exact mem0)))) ?_; rintro e w45 ⟨⟨p45, v45, rfl, hv45, hb45⟩, H, G⟩; obtain ⟨r45s, hs45⟩ : ∃ sgn, sgn = decide (SK < 0) := ⟨_, rfl⟩; rw [← hs45]; have hi := And.intro hv45 hs45; obtain ⟨r45t, r45a, r45n, rfl, rfl, -, -, -, -, -, -⟩ := hv45.form; replace ST := Lib.hid ((H.call hb45).know hi); replace HB := Lib.hid (G.trans (hb45.mono G.size)); have hz45 := HB.out.size; clear hi H G hv45 hb45 hs45; (first | clear y0 y1 y2 y3 y4 y5 y6 y7 y8 | skip); (first | (with_reducible have ⟨⟨y0, y1, y2, y3, y4, y5⟩, y6, y7, y8⟩ := St.fresh1 ST.out) | skip)) | (go_at_call 165; refine St.armB (w := w) (by ((with_reducible iterate 4 try first | apply St.drew | apply St.alloc | apply St.allocR | apply St.putR); first | ((with_reducible exact ST.out); all_goals (first | rfl | (simp; done) | (simp; omega))) | ((with_reducible apply St.put0); ((with_reducible iterate 4 try first | apply St.drew | apply St.alloc | apply St.allocR | apply St.putR); ((with_reducible exact ST.out); all_goals (first | rfl | (simp; done) | (simp; omega))))) | ((with_reducible apply St.put1); ((with_reducible iterate 4 try first | apply St.drew | apply St.alloc | apply St.allocR | apply St.putR); ((with_reducible exact ST.out); all_goals (first | rfl | (simp; done) | (simp; omega))))))) (by ((repeat (first | (with_reducible apply bel_drew) | (with_reducible apply bel_alloc) | ((with_reducible refine bel_put ?_ ?_); focus (first | omega | (simp; omega))))); with_reducible exact HB.out)) (by intro H; with_reducible exact Op2.run M2 (H.int (by with_reducible ((repeat ((fail_if_success exact mem0); apply List.mem_cons_of_mem)); exact mem0))) (H.int (by with_reducible ((repeat ((fail_if_success exact mem0); apply List.mem_cons_of_mem)); exact mem0)))) ?_; rintro e w46 ⟨⟨p46, v46, rfl, hv46, hb46⟩, H, G⟩; obtain ⟨r46s, hs46⟩ : ∃ sgn, sgn = decide (S < 0) := ⟨_, rfl⟩; rw [← hs46]; have hi := And.intro hv46 hs46; obtain ⟨r46t, r46a, r46n, rfl, rfl, -, -, -, -, -, -⟩ := hv46.form; replace ST := Lib.hid ((H.call hb46).know hi); replace HB := Lib.hid (G.trans (hb46.mono G.size)); have hz46 := HB.out.size; clear hi H G hv46 hb46 hs46; (first | clear y0 y1 y2 y3 y4 y5 y6 y7 y8 | skip); (first | (with_reducible have ⟨⟨y0, y1, y2, y3, y4, y5⟩, y6, y7, y8⟩ := St.fresh1 ST.out) | skip)) | fail)
                all_goals (go_wp2_with fail; go_meet; case rel => (refine ⟨_, r46t, r46a, r46n, r46s, rfl, ?_, by ((repeat (first | (with_reducible apply bel_drew) | (with_reducible apply bel_alloc) | ((with_reducible refine bel_put ?_ ?_); focus (first | omega | (simp; omega))))); with_reducible exact HB.out)⟩; exact St.keep (by ((with_reducible iterate 4 try first | apply St.drew | apply St.alloc | apply St.allocR | apply St.putR); first | ((with_reducible exact ST.out); all_goals (first | rfl | (simp; done) | (simp; omega))) | ((with_reducible apply St.put0); ((with_reducible iterate 4 try first | apply St.drew | apply St.alloc | apply St.allocR | apply St.putR); ((with_reducible exact ST.out); all_goals (first | rfl | (simp; done) | (simp; omega))))) | ((with_reducible apply St.put1); ((with_reducible iterate 4 try first | apply St.drew | apply St.alloc | apply St.allocR | apply St.putR); ((with_reducible exact ST.out); all_goals (first | rfl | (simp; done) | (simp; omega))))))) (fun H => ((((((((H.bare.pick H (by with_reducible ((repeat ((fail_if_success exact mem0); apply List.mem_cons_of_mem)); exact mem0))).pick H (by with_reducible ((repeat ((fail_if_success exact mem0); apply List.mem_cons_of_mem)); exact mem0))).pick H (by with_reducible ((repeat ((fail_if_success exact mem0); apply List.mem_cons_of_mem)); exact mem0))).pick H (by with_reducible ((repeat ((fail_if_success exact mem0); apply List.mem_cons_of_mem)); exact mem0))).pick H (by with_reducible ((repeat ((fail_if_success exact mem0); apply List.mem_cons_of_mem)); exact mem0))).pick H (by with_reducible ((repeat ((fail_if_success exact mem0); apply List.mem_cons_of_mem)); exact mem0))).pick H (by with_reducible ((repeat ((fail_if_success exact mem0); apply List.mem_cons_of_mem)); exact mem0))).pick H (by with_reducible ((repeat ((fail_if_success exact mem0); apply List.mem_cons_of_mem)); exact mem0))))))
              case rest =>
                obtain ⟨k9, st, sa, sn, ss, rfl, hST, hB⟩ := hcut
                replace HO := Lib.hid (HO.out.kept hB)
                clear ST HB hB
                have ST := Lib.hid hST
                clear hST
                obtain ⟨c0, c1, c2, c3, c4, c5, c6, c7, c8, c9, c10, c11⟩ := ST.out.rats (w.heap.size, .int .u64 xt, .slice xa xn xn, xs, .int .u64 yt, .slice ya yn yn, ys) (by with_reducible ((repeat ((fail_if_success exact mem0); apply List.mem_cons_of_mem)); exact mem0))
                dsimp only at c0 c1 c2 c3 c4 c5 c6 c7 c8 c9 c10 c11
                obtain ⟨d0, d1, d2, d3, d4, d5, d6, d7, d8, d9, d10, d11⟩ := ST.out.rats (w.heap.size + 1, .int .u64 zt, .slice za zn zn, zs, .int .u64 rt, .slice ra rn rn, rs) (by with_reducible ((repeat ((fail_if_success exact mem0); apply List.mem_cons_of_mem)); exact mem0))
                dsimp only at d0 d1 d2 d3 d4 d5 d6 d7 d8 d9 d10 d11
                obtain ⟨e0, e1, e2⟩ := ST.out.num (k := k9) (by with_reducible ((repeat ((fail_if_success exact mem0); apply List.mem_cons_of_mem)); exact mem0))
                obtain ⟨g0, g1, g2⟩ := ST.out.num (k := k6 + 1) (by with_reducible ((repeat ((fail_if_success exact mem0); apply List.mem_cons_of_mem)); exact mem0))
                have ap1 := ST.out.apart (w.heap.size, .int .u64 xt, .slice xa xn xn, xs, .int .u64 yt, .slice ya yn yn, ys) (by with_reducible ((repeat ((fail_if_success exact mem0); apply List.mem_cons_of_mem)); exact mem0)) (k9, .int .u64 st, .slice sa sn sn, ss) (by with_reducible ((repeat ((fail_if_success exact mem0); apply List.mem_cons_of_mem)); exact mem0))
                have ap2 := ST.out.apart (w.heap.size + 1, .int .u64 zt, .slice za zn zn, zs, .int .u64 rt, .slice ra rn rn, rs) (by with_reducible ((repeat ((fail_if_success exact mem0); apply List.mem_cons_of_mem)); exact mem0)) (k9, .int .u64 st, .slice sa sn sn, ss) (by with_reducible ((repeat ((fail_if_success exact mem0); apply List.mem_cons_of_mem)); exact mem0))
                have ap3 := ST.out.apart (w.heap.size, .int .u64 xt, .slice xa xn xn, xs, .int .u64 yt, .slice ya yn yn, ys) (by with_reducible ((repeat ((fail_if_success exact mem0); apply List.mem_cons_of_mem)); exact mem0)) (k6 + 1, .int .u64 q5t, .slice q5a q5n q5n, q5s) (by with_reducible ((repeat ((fail_if_success exact mem0); apply List.mem_cons_of_mem)); exact mem0))
                have ap4 := ST.out.apart (w.heap.size + 1, .int .u64 zt, .slice za zn zn, zs, .int .u64 rt, .slice ra rn rn, rs) (by with_reducible ((repeat ((fail_if_success exact mem0); apply List.mem_cons_of_mem)); exact mem0)) (k6 + 1, .int .u64 q5t, .slice q5a q5n q5n, q5s) (by with_reducible ((repeat ((fail_if_success exact mem0); apply List.mem_cons_of_mem)); exact mem0))
                dsimp only at ap1 ap2 ap3 ap4
                have ap5 := Ne.symm ap1
                have ap6 := Ne.symm ap2
                have ap7 := Ne.symm ap3
                have ap8 := Ne.symm ap4
                go_upto_region 10 with fail
                go_region
                have HFa : v1.ownBlock ≠ some w.heap.size := fun e => (HF1.out _ e).1 rfl
                have HFb : v1.ownBlock ≠ some (w.heap.size + 1) := fun e => (HF1.out _ e).2.1 rfl
                have HO1 := HO.out.over6 (.int .u64 rt) (.slice ra rn rn) rs (.int .u64 st) (.slice sa sn sn) ss HFa ST.out (k := w.heap.size) (by with_reducible ((repeat ((fail_if_success exact mem0); apply List.mem_cons_of_mem)); exact mem0)) (ST.out.int (x := n) (by with_reducible ((repeat ((fail_if_success exact mem0); apply List.mem_cons_of_mem)); exact mem0))) (ST.out.int (x := d) (by with_reducible ((repeat ((fail_if_success exact mem0); apply List.mem_cons_of_mem)); exact mem0)))
                have ST1 := ST.out.rev3.overR (.int .u64 rt) (.slice ra rn rn) rs (.int .u64 st) (.slice sa sn sn) ss (ST.out.int (x := n) (by with_reducible ((repeat ((fail_if_success exact mem0); apply List.mem_cons_of_mem)); exact mem0))) (ST.out.int (x := d) (by with_reducible ((repeat ((fail_if_success exact mem0); apply List.mem_cons_of_mem)); exact mem0)))
                have HO2 := (HO1.over6 (.int .u64 yt) (.slice ya yn yn) ys (.int .u64 q5t) (.slice q5a q5n q5n) q5s HFb ST1 (k := w.heap.size + 1) (by with_reducible ((repeat ((fail_if_success exact mem0); apply List.mem_cons_of_mem)); exact mem0)) (ST1.int (x := m) (by with_reducible ((repeat ((fail_if_success exact mem0); apply List.mem_cons_of_mem)); exact mem0))) (ST1.int (x := k) (by with_reducible ((repeat ((fail_if_success exact mem0); apply List.mem_cons_of_mem)); exact mem0)))).drew
                have ST2 := ((ST1.swapR.overR (.int .u64 yt) (.slice ya yn yn) ys (.int .u64 q5t) (.slice q5a q5n q5n) q5s (ST1.int (x := m) (by with_reducible ((repeat ((fail_if_success exact mem0); apply List.mem_cons_of_mem)); exact mem0))) (ST1.int (x := k) (by with_reducible ((repeat ((fail_if_success exact mem0); apply List.mem_cons_of_mem)); exact mem0)))).swapR.rev3).drew
                obtain ⟨Wd, hW⟩ : ∃ Wd, Wd = (((((((((((((wc.setCell ⟨w.heap.size, 0, none⟩ (.int .u64 rt)).setCell ⟨w.heap.size, 1, none⟩ (.slice ra rn rn)).setCell ⟨w.heap.size, 2, none⟩ (.bool rs)).setCell ⟨w.heap.size, 3, none⟩ (.int .u64 st)).setCell ⟨w.heap.size, 4, none⟩ (.slice sa sn sn)).setCell ⟨w.heap.size, 5, none⟩ (.bool ss)).setCell ⟨(w.heap.size + 1), 0, none⟩ (.int .u64 yt)).setCell ⟨(w.heap.size + 1), 1, none⟩ (.slice ya yn yn)).setCell ⟨(w.heap.size + 1), 2, none⟩ (.bool ys)).setCell ⟨(w.heap.size + 1), 3, none⟩ (.int .u64 q5t)).setCell ⟨(w.heap.size + 1), 4, none⟩ (.slice q5a q5n q5n)).setCell ⟨(w.heap.size + 1), 5, none⟩ (.bool q5s))).drew := ⟨_, rfl⟩
                rw [← hW] at ST2 HO2
                rw [← hW]
                clear hW ST1 HO1 HFa HFb ap1 ap2 ap3 ap4 ap5 ap6 ap7 ap8 c0 c1 c2 c3 c4 c5 c6 c7 c8 c9 c10 c11 d0 d1 d2 d3 d4 d5 d6 d7 d8 d9 d10 d11 e0 e1 e2 g0 g1 g2
                clear ST HO
                have ST := Lib.hid ST2
                have HO := Lib.hid HO2
                clear ST2 HO2
                go_wp2
                go_roundg (gk - 1)
                case measure => have := HFU.out; omega
                case rel =>
              have r3 := R3.out
              have hs := HS.out
              have hfu := HFU.out
              have hl := HL0.out
              have hiv := r3.iv
              have hsk := r3.sk
              have hs0 := r3.s0
              have hrd := r3.rd
              have hr0 := r3.r0
              rw [hs] at hiv hl hsk hs0
              exact ⟨k, S, d, R, l ++ [Q], _, _, _, _, _, _, _, _, _, _, _, _, ST.out.sub (Z' := []) (N' := [(.int .u64 rt, .slice ra rn rn, rs, k), (.int .u64 st, .slice sa sn sn, ss, S), (.int .u64 yt, .slice ya yn yn, ys, d), (.int .u64 q5t, .slice q5a q5n q5n, q5s, R)]) (List.Sublist.refl _) (List.nil_sublist _) (by intro e he; simp only [List.mem_cons, List.not_mem_nil, or_false] at he; rcases he with rfl | rfl | rfl | rfl <;> exact (by with_reducible ((repeat ((fail_if_success exact mem0); apply List.mem_cons_of_mem)); exact mem0))), HO.out, HF1.out, hiv, by omega, hl, DN.out.2.2.2, Nat.le_trans (dn_mono (by omega) (show S ≤ k by omega)) DN.out.2.2.2, DN.out.2.1, Nat.le_trans (dn_mono (by omega) (show R ≤ d by omega)) DN.out.2.1⟩
        · have hdc : decide (m < T * k) = false := decide_eq_false hlt
          rw [hdc] at CL9
          clear hdc
          go_upto_region 6 with fail
          obtain ⟨Wb, hWb⟩ : ∃ Wb, Wb = wc := ⟨_, rfl⟩
          have HB := Lib.hid (Below.refl wc.heap.size wc)
          rw [← hWb] at HB HO ST ⊢
          have hwb := hWb
          clear hWb hwb
          go_cut [30] from 26 to 54 (fun x30 W => x30 = .bool true ∧ St w W [(w.heap.size + 1 + 1, .int .u64 0, .slice none 0 0, false, .int .u64 0, .slice none 0 0, false), (w.heap.size + 1, .int .u64 zt, .slice za zn zn, zs, .int .u64 rt, .slice ra rn rn, rs), (w.heap.size, .int .u64 xt, .slice xa xn xn, xs, .int .u64 yt, .slice ya yn yn, ys)] [(k6 + 1 + 1, .int .u64 tt, .slice ta tn tn, ts), (k6 + 1, .int .u64 q5t, .slice q5a q5n q5n, q5s), (k6, .int .u64 r5t, .slice r5a r5n r5n, r5s)] [(.int .u64 tt, .slice ta tn tn, ts, T), (.int .u64 r5t, .slice r5a r5n r5n, r5s, Q), (.int .u64 q5t, .slice q5a q5n q5n, q5s, R), (.int .u64 xt, .slice xa xn xn, xs, n), (.int .u64 yt, .slice ya yn yn, ys, d), (.int .u64 zt, .slice za zn zn, zs, m), (.int .u64 rt, .slice ra rn rn, rs, k)] ∧ Below Wb.heap.size Wb W)
          case first =>
            go_region_held3 (fun W => (W.cell? ⟨w.heap.size + 1, 0, none⟩ = some (.int .u64 zt) ∧ W.cell? ⟨w.heap.size + 1, 1, none⟩ = some (.slice za zn zn) ∧ W.cell? ⟨w.heap.size + 1, 2, none⟩ = some (.bool zs) ∧ W.cell? ⟨w.heap.size + 1, 3, none⟩ = some (.int .u64 rt) ∧ W.cell? ⟨w.heap.size + 1, 4, none⟩ = some (.slice ra rn rn) ∧ W.cell? ⟨w.heap.size + 1, 5, none⟩ = some (.bool rs)) ∧ (W.cell? ⟨k6 + 1 + 1, 0, none⟩ = some (.int .u64 tt) ∧ W.cell? ⟨k6 + 1 + 1, 1, none⟩ = some (.slice ta tn tn) ∧ W.cell? ⟨k6 + 1 + 1, 2, none⟩ = some (.bool ts))) (exact ⟨St.rat (w := w) (by ((with_reducible iterate 4 try first | apply St.drew | apply St.alloc | apply St.allocR | apply St.putR); ((with_reducible exact ST.out); all_goals (first | rfl | (simp; done) | (simp; omega))))) (by with_reducible ((repeat ((fail_if_success exact mem0); apply List.mem_cons_of_mem)); exact mem0)), St.num (w := w) (by ((with_reducible iterate 4 try first | apply St.drew | apply St.alloc | apply St.allocR | apply St.putR); ((with_reducible exact ST.out); all_goals (first | rfl | (simp; done) | (simp; omega))))) (by with_reducible ((repeat ((fail_if_success exact mem0); apply List.mem_cons_of_mem)); exact mem0))⟩) (first | (go_at_call 118; refine St.armB (w := w) (by ((with_reducible iterate 4 try first | apply St.drew | apply St.alloc | apply St.allocR | apply St.putR); ((with_reducible exact ST.out); all_goals (first | rfl | (simp; done) | (simp; omega))))) (by ((repeat (first | (with_reducible apply bel_drew) | (with_reducible apply bel_alloc) | ((with_reducible refine bel_put ?_ ?_); focus (first | omega | (simp; omega))))); with_reducible exact HB.out)) (by intro H; with_reducible exact fromWhole_any _ _ _ T _ (H.int (by with_reducible ((repeat ((fail_if_success exact mem0); apply List.mem_cons_of_mem)); exact mem0)))) ?_; rintro e w28 ⟨⟨p28, v28, o28, u28, rfl, hv28, hu28, hb28⟩, H, G⟩; obtain ⟨r28s, hs28⟩ : ∃ sgn, sgn = decide (T < 0) := ⟨_, rfl⟩; obtain ⟨q28s, ht28⟩ : ∃ sgn, sgn = decide ((1 : Int) < 0) := ⟨_, rfl⟩; rw [← hs28, ← ht28]; have hi := And.intro hv28 hs28; have hj := And.intro hu28 ht28; obtain ⟨r28t, r28a, r28n, rfl, rfl, -, -, -, -, -, -⟩ := hv28.form; obtain ⟨q28t, q28a, q28n, rfl, rfl, -, -, -, -, -, -⟩ := hu28.form; replace ST := Lib.hid (((H.call hb28).know hj).know hi); replace HB := Lib.hid (G.trans (hb28.mono G.size)); clear hi hj H G hv28 hu28 hb28 hs28 ht28) | (go_at_call 87; refine St.armB (w := w) (by ((with_reducible iterate 4 try first | apply St.drew | apply St.alloc | apply St.allocR | apply St.putR); ((with_reducible exact ST.out); all_goals (first | rfl | (simp; done) | (simp; omega))))) (by ((repeat (first | (with_reducible apply bel_drew) | (with_reducible apply bel_alloc) | ((with_reducible refine bel_put ?_ ?_); focus (first | omega | (simp; omega))))); with_reducible exact HB.out)) (by intro H; with_reducible exact CL9.run (H.int (x := m) (by with_reducible ((repeat ((fail_if_success exact mem0); apply List.mem_cons_of_mem)); exact mem0))) (H.int (x := k) (by with_reducible ((repeat ((fail_if_success exact mem0); apply List.mem_cons_of_mem)); exact mem0))) (H.int (x := T) (by with_reducible ((repeat ((fail_if_success exact mem0); apply List.mem_cons_of_mem)); exact mem0))) (H.int (x := 1) (by with_reducible ((repeat ((fail_if_success exact mem0); apply List.mem_cons_of_mem)); exact mem0)))) ?_; rintro e w29 ⟨⟨rfl, hb29⟩, H, G⟩; replace ST := Lib.hid (H.call hb29); replace HB := Lib.hid (G.trans (hb29.mono G.size)); clear H G hb29) | fail)
            all_goals (go_wp2_with fail; go_meet; case rel => (refine ⟨rfl, ?_, by ((repeat (first | (with_reducible apply bel_drew) | (with_reducible apply bel_alloc) | ((with_reducible refine bel_put ?_ ?_); focus (first | omega | (simp; omega))))); with_reducible exact HB.out)⟩; exact St.keep (by ((with_reducible iterate 4 try first | apply St.drew | apply St.alloc | apply St.allocR | apply St.putR); ((with_reducible exact ST.out); all_goals (first | rfl | (simp; done) | (simp; omega))))) (fun H => (((((((H.bare.pick H (by with_reducible ((repeat ((fail_if_success exact mem0); apply List.mem_cons_of_mem)); exact mem0))).pick H (by with_reducible ((repeat ((fail_if_success exact mem0); apply List.mem_cons_of_mem)); exact mem0))).pick H (by with_reducible ((repeat ((fail_if_success exact mem0); apply List.mem_cons_of_mem)); exact mem0))).pick H (by with_reducible ((repeat ((fail_if_success exact mem0); apply List.mem_cons_of_mem)); exact mem0))).pick H (by with_reducible ((repeat ((fail_if_success exact mem0); apply List.mem_cons_of_mem)); exact mem0))).pick H (by with_reducible ((repeat ((fail_if_success exact mem0); apply List.mem_cons_of_mem)); exact mem0))).pick H (by with_reducible ((repeat ((fail_if_success exact mem0); apply List.mem_cons_of_mem)); exact mem0))))))
          case rest =>
            obtain ⟨rfl, hST, hB⟩ := hcut
            replace HO := Lib.hid (HO.out.kept hB)
            clear ST HB hB
            have ST := Lib.hid hST
            clear hST
            have hst : sterms gk n d m k = [T] := by
                obtain ⟨g, hg⟩ : ∃ g, gk = g + 1 := ⟨gk - 1, by have := HFU.out; omega⟩
                rw [hg, sterms_end (by rw [HT.out]; have := hlt; omega), HT.out]
            have hL0 : L0 = l ++ [T] := by rw [HL.out, hst]
            have hlen : l.length ≤ 1000000000000 := by have := TM.out.len; rw [hL0] at this; simp at this; omega
            have HL0 := Lib.hid hL0
            clear hst hL0
            obtain ⟨e0, e1, e2⟩ := ST.out.num (k := k6 + 1 + 1) (by with_reducible ((repeat ((fail_if_success exact mem0); apply List.mem_cons_of_mem)); exact mem0))
            go_wp2_with (at_builtin; refine wpList_append_z _ rfl _ _ rfl w.heap.size _ l rfl HO.out.alloc ?c1 hlen ⟨wc.heap.size, 0, none⟩ 1 rfl (.int .u64 tt) (.slice ta tn tn) ts T ?c2 ?c3 ?c4 ?c5 ?_)
            case c1 => have := ST.out.below.size; simp; omega
            try (case c2 => simp [Addr.add])
            try (case c3 => simp [Addr.add])
            try (case c4 => simp [Addr.add])
            case c5 => exact (ST.out.int (x := T) (by with_reducible ((repeat ((fail_if_success exact mem0); apply List.mem_cons_of_mem)); exact mem0))).below (alloc_below _ _)
            · intro v1 w1 ho hg hbk hI
              have STa := ST.out.call (alloc_below wc (.cells #[.int .u64 tt, .slice ta tn tn, .bool ts] 74))
              have STb := STa.grown hg (fun j hj => (HO.out.lt j hj).1) (by
                  intro e he hj
                  have hf := HF.out _ hj
                  simp only [List.mem_cons, List.not_mem_nil, or_false] at he
                  rcases he with rfl | rfl | rfl
                  · exact hf.2.2 rfl
                  · exact hf.2.1 rfl
                  · exact hf.1 rfl) (by
                  intro e he hj
                  have hk := HK.out _ hj
                  simp only [List.mem_cons, List.not_mem_nil, or_false] at he
                  rcases he with rfl | rfl | rfl <;> (dsimp only at hk; omega)) hI
              clear ST
              replace ST := Lib.hid STb
              clear STa STb hg hbk hI e0 e1 e2
              replace HO := Lib.hid ho
              clear ho
              go_wp2_with fail
              refine St.arm (w := w) (by exact ST.out) (by intro _; exact CO.out _ _ (by rw [HL0.out]; exact HO.out.numL)) ?_
              rintro e w35 ⟨⟨p35, v35, o35, u35, rfl, hv35, hu35, hb35⟩, H⟩
              obtain ⟨r35s, hs35⟩ : ∃ sgn, sgn = decide (X1 < 0) := ⟨_, rfl⟩
              obtain ⟨q35s, ht35⟩ : ∃ sgn, sgn = decide (X2 < 0) := ⟨_, rfl⟩
              rw [← hs35, ← ht35]
              have hi := And.intro hv35 hs35
              have hj := And.intro hu35 ht35
              obtain ⟨r35t, r35a, r35n, rfl, rfl, -, -, -, -, -, -⟩ := hv35.form
              obtain ⟨q35t, q35a, q35n, rfl, rfl, -, -, -, -, -, -⟩ := hu35.form
              replace ST := Lib.hid (((H.call hb35).know hj).know hi)
              clear hi hj hv35 hu35 hb35 hs35 ht35
              clear H
              obtain ⟨q0, q1, q2, q3, q4, q5, q6, q7, q8, q9, q10, q11⟩ := ST.out.rats (w.heap.size + 1 + 1, .int .u64 0, .slice none 0 0, false, .int .u64 0, .slice none 0 0, false) (by with_reducible ((repeat ((fail_if_success exact mem0); apply List.mem_cons_of_mem)); exact mem0))
              dsimp only at q0 q1 q2 q3 q4 q5 q6 q7 q8 q9 q10 q11
              go_wp2
              exact bodyPost_ret (v := .agg #[.int .u64 r35t, .slice r35a r35n r35n, .bool r35s, .int .u64 q35t, .slice q35a q35n q35n, .bool q35s]) (by simp [results, Tryz.results125, go_sem, q0, q1, q2, q3, q4, q5]) rfl (ST.out.giveR (k := w.heap.size + 1 + 1) (by with_reducible ((repeat ((fail_if_success exact mem0); apply List.mem_cons_of_mem)); exact mem0)) (by omega) (by with_reducible ((repeat ((fail_if_success exact mem0); apply List.mem_cons_of_mem)); exact mem0)) (by with_reducible ((repeat ((fail_if_success exact mem0); apply List.mem_cons_of_mem)); exact mem0)))
end Go.Proofs.YtkhebidmfjbhaaaGreatDoor
