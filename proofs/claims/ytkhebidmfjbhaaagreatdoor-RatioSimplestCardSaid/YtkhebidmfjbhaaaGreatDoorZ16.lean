/-
  What euclid.leap does.
-/
import Derived.Test.YtkhebidmfjbhaaaGreatDoorZ15
namespace Go.Proofs.YtkhebidmfjbhaaaGreatDoor
open Go.RowKit

/-- The two boxes k2 and k3 hold the blends; the stage lies at g. -/
structure LC (w W : World) (g k2 k3 : Nat) (A B C D : Int) (pa va pb vb ps vs pt vt : Value) (mn : Bool) (a b s t : Int) : Prop where
  below : Below g w W
  p : Slot W k2 0 (.int .i64 A)
  q : Slot W k2 1 (.int .i64 B)
  r : Slot W k3 0 (.int .i64 C)
  u : Slot W k3 1 (.int .i64 D)
  n2 : k2 ≠ g
  n3 : k3 ≠ g
  eb : EB W g pa va pb vb ps vs pt vt mn a b s t
theorem LC.step {w W W' : World} {g k2 k3 : Nat} {A B C D : Int} {pa va pb vb ps vs pt vt : Value} {mn : Bool} {a b s t : Int} (h : LC w W g k2 k3 A B C D pa va pb vb ps vs pt vt mn a b s t) (hb : Below W.heap.size W W') : LC w W' g k2 k3 A B C D pa va pb vb ps vs pt vt mn a b s t :=
  ⟨h.below.trans (hb.mono (Nat.le_of_lt h.eb.lt)), h.p.below hb h.p.lt, h.q.below hb h.q.lt, h.r.below hb h.r.lt, h.u.below hb h.u.lt, h.n2, h.n3, h.eb.step hb⟩
theorem LC.put01 {w W : World} {g k2 k3 : Nat} {A B C D : Int} {pa va pb vb ps vs pt vt p1 v1 p2 v2 : Value} {mn : Bool} {a b s t x y : Int} (h : LC w W g k2 k3 A B C D pa va pb vb ps vs pt vt mn a b s t) (hx : NatV W p1 v1 x) (hy : NatV W p2 v2 y) :
    LC w (wrN (wrN W g 0 p1 v1) g 2 p2 v2) g k2 k3 A B C D p1 v1 p2 v2 ps vs pt vt mn x y s t := by
  have e1 := h.eb.puta hx
  have hy2 : NatV (wrN W g 0 p1 v1) p2 v2 y := hy.wr2 h.eb.a (.inl (by omega))
  exact ⟨wr2_below (wr2_below h.below (Nat.le_refl _)) (Nat.le_refl _), slot_wr2 (slot_wr2 h.p (fun e => absurd e h.n2)) (fun e => absurd e h.n2), slot_wr2 (slot_wr2 h.q (fun e => absurd e h.n2)) (fun e => absurd e h.n2), slot_wr2 (slot_wr2 h.r (fun e => absurd e h.n3)) (fun e => absurd e h.n3), slot_wr2 (slot_wr2 h.u (fun e => absurd e h.n3)) (fun e => absurd e h.n3), h.n2, h.n3, e1.putb hy2⟩
theorem LC.put23 {w W : World} {g k2 k3 : Nat} {A B C D : Int} {pa va pb vb ps vs pt vt p1 v1 p2 v2 : Value} {mn : Bool} {a b s t x y : Int} (h : LC w W g k2 k3 A B C D pa va pb vb ps vs pt vt mn a b s t) (hx : NatV W p1 v1 x) (hy : NatV W p2 v2 y) :
    LC w (wrN (wrN W g 4 p1 v1) g 6 p2 v2) g k2 k3 A B C D pa va pb vb p1 v1 p2 v2 mn a b x y := by
  have e1 := h.eb.puts hx
  have hy2 : NatV (wrN W g 4 p1 v1) p2 v2 y := hy.wr2 h.eb.s (.inr ⟨_, h.eb.b.t, h.eb.b.notint⟩)
  exact ⟨wr2_below (wr2_below h.below (Nat.le_refl _)) (Nat.le_refl _), slot_wr2 (slot_wr2 h.p (fun e => absurd e h.n2)) (fun e => absurd e h.n2), slot_wr2 (slot_wr2 h.q (fun e => absurd e h.n2)) (fun e => absurd e h.n2), slot_wr2 (slot_wr2 h.r (fun e => absurd e h.n3)) (fun e => absurd e h.n3), slot_wr2 (slot_wr2 h.u (fun e => absurd e h.n3)) (fun e => absurd e h.n3), h.n2, h.n3, e1.putt hy2⟩
/-- What the factors of a leap keep. -/
structure Lp (A B C D a b : Int) : Prop where
  sgn : (0 ≤ A ∧ B ≤ 0 ∧ C ≤ 0 ∧ 0 ≤ D ∧ A * D - B * C = 1) ∨ (A ≤ 0 ∧ 0 ≤ B ∧ 0 < C ∧ D ≤ 0 ∧ A * D - B * C = -1)
  a9 : -1000000000 < A ∧ A < 1000000000
  b9 : -1000000000 < B ∧ B < 1000000000
  c9 : -1000000000 < C ∧ C < 1000000000
  d9 : -1000000000 < D ∧ D < 1000000000
  x0 : 0 ≤ A * a + B * b
  y0 : 0 ≤ C * a + D * b
  lt : B ≠ 0 → C * a + D * b < b
def Leapt (g : Nat) (mn : Bool) (a b s t : Int) (w : World) (e : Ending) (w' : World) : Prop :=
  Below g w w' ∧ ((e = .returned (.bool false) ∧ ∃ x1 x2 y1 y2 z1 z2 u1 u2, EB w' g x1 x2 y1 y2 z1 z2 u1 u2 mn a b s t) ∨
    (e = .returned (.bool true) ∧ ∃ A B C D x1 x2 y1 y2 z1 z2 u1 u2, Lp A B C D a b ∧ B ≠ 0 ∧ EB w' g x1 x2 y1 y2 z1 z2 u1 u2 (mn != decide (C > 0)) (A * a + B * b) (C * a + D * b) (A.natAbs * s + B.natAbs * t) (C.natAbs * s + D.natAbs * t)))
/-- The factors that the highest limbs give serve the numbers themselves. -/
theorem Bl.lp {A B C D a b : Int} {n : Nat} (h : Bl (a / bp n) (b / bp n) A B C D) : Lp A B C D a b := by
  have hp := bp_pos n
  have e1 := Int.mul_ediv_add_emod a (bp n)
  have e2 := Int.mul_ediv_add_emod b (bp n)
  have t := h.tp (bp n) (a % bp n) (b % bp n) (Int.emod_nonneg _ (by omega)) (Int.emod_lt_of_pos _ hp) (Int.emod_nonneg _ (by omega)) (Int.emod_lt_of_pos _ hp)
  rw [Int.mul_comm (a / bp n), Int.mul_comm (b / bp n), e1, e2] at t
  exact ⟨h.sgn, h.va9, h.vb9, h.wa9, h.wb9, t.1, t.2.1, t.2.2.2⟩
theorem top_lt {a : Int} (h : 0 ≤ a) : 0 ≤ a / bp (nl a - 2) ∧ a / bp (nl a - 2) < 1000000000000000000 := by
  have hp := bp_pos (nl a - 2)
  refine ⟨Int.ediv_nonneg h (by omega), ?_⟩
  have h1 := nl_lt h
  have h2 : bp (nl a) ≤ bp (nl a - 2 + 2) := bp_mono (by omega)
  rw [bp_add, Int.mul_comm] at h2
  have h3 : bp 2 = 1000000000000000000 := by unfold bp; decide
  rw [h3] at h2
  exact Int.ediv_lt_of_lt_mul hp (by omega)
/-- A box of two cells. -/
structure Bx (W : World) (k : Nat) : Prop where
  c : ∃ u, Slot W k 0 (.int .i64 u)
  d : ∃ u, Slot W k 1 (.int .i64 u)
theorem Bx.below {W W' : World} {k : Nat} (h : Bx W k) (hb : Below W.heap.size W W') : Bx W' k := by
  obtain ⟨⟨u, hu⟩, v, hv⟩ := h
  exact ⟨⟨u, hu.below hb hu.lt⟩, v, hv.below hb hv.lt⟩
theorem with_fact {p q : Prop} (h : p) (k : p → q) : q := k h
theorem bx_new (W : World) (u v : Int) (t : TypeId) (r : Nat) (hr : r = W.heap.size) : Bx (W.alloc (.cells #[.int .i64 u, .int .i64 v] t)) r :=
  ⟨⟨u, (slot2_new W _ _ t r hr).1⟩, v, (slot2_new W _ _ t r hr).2⟩
theorem bx_drew {W : World} {k : Nat} (h : Bx W k) : Bx W.drew k := ⟨h.c, h.d⟩
theorem bx_more {W : World} {k : Nat} {o : Obj} (h : Bx W k) : Bx (W.alloc o) k := h.below (alloc_below _ _)
def SlotX (W : World) (k o : Nat) : Prop := ∃ u, Slot W k o u
theorem slotx_at {W : World} {k o : Nat} {u : Value} (h1 : W.cell? ⟨k, o, none⟩ = some u) (h2 : W.frozen? ⟨k, o, none⟩ = false) : SlotX W k o := ⟨u, h1, h2⟩
theorem slotx_set {W : World} {k o r p : Nat} {v : Value} (h : SlotX W k o) : SlotX (W.setCell ⟨r, p, none⟩ v) k o := by
  obtain ⟨u, h⟩ := h
  rcases Decidable.em (k = r ∧ o = p) with ⟨rfl, rfl⟩ | hn
  · exact ⟨v, slotO_same h⟩
  · exact ⟨u, slotO_other h (fun e1 e2 => hn ⟨e1, e2⟩)⟩
theorem slotO_put {W : World} {k o : Nat} {v : Value} (h : SlotX W k o) : Slot (W.setCell ⟨k, o, none⟩ v) k o v := by
  obtain ⟨u, h⟩ := h
  exact slotO_same h
theorem slotO_more {W : World} {k o : Nat} {u : Value} {b : Obj} (h : Slot W k o u) : Slot (W.alloc b) k o u := h.below (alloc_below _ _) h.lt
theorem slotO_new0 (W : World) (u v : Value) (t : TypeId) (r : Nat) (hr : r = W.heap.size) : Slot (W.alloc (.cells #[u, v] t)) r 0 u := (slot2_new W u v t r hr).1
theorem slotO_new1 (W : World) (u v : Value) (t : TypeId) (r : Nat) (hr : r = W.heap.size) : Slot (W.alloc (.cells #[u, v] t)) r 1 v := (slot2_new W u v t r hr).2
theorem lc_of {w W : World} {g k2 k3 : Nat} {A B C D : Int} {pa va pb vb ps vs pt vt : Value} {mn : Bool} {a b s t : Int} (h : EB w g pa va pb vb ps vs pt vt mn a b s t) (hb : Below w.heap.size w W) (l2 : w.heap.size ≤ k2) (l3 : w.heap.size ≤ k3)
    (p : Slot W k2 0 (.int .i64 A)) (q : Slot W k2 1 (.int .i64 B)) (r : Slot W k3 0 (.int .i64 C)) (u : Slot W k3 1 (.int .i64 D)) : LC w W g k2 k3 A B C D pa va pb vb ps vs pt vt mn a b s t := by
  have := h.lt
  exact ⟨hb.mono (by omega), p, q, r, u, by omega, by omega, h.step hb⟩
set_option maxHeartbeats 8000000 in
set_option maxRecDepth 100000 in
theorem leap_any (g : Nat) (w : World) (pa va pb vb ps vs pt vt : Value) (mn : Bool) (a b s t : Int) (h : EB w g pa va pb vb ps vs pt vt mn a b s t) (ha9 : nl a ≤ 20000) (hb9 : nl b ≤ 20000) (hs9 : nl s ≤ 20000) (ht9 : nl t ≤ 20000) :
    Calls Tryz.prog 224 #[.pointer (some ⟨g, 0, none⟩)] w (Leapt g mn a b s t w) := by
  have EH := Lib.hid h
  obtain ⟨f1, a1, n1, rfl, rfl, -, hn1, -, x3, -, -⟩ := h.a.n.form
  obtain ⟨f2, a2, n2, rfl, rfl, -, hn2, -, x6, -, -⟩ := h.b.n.form
  obtain ⟨f3, a3, n3, rfl, rfl, -, -, -, x7, -, -⟩ := h.s.n.form
  obtain ⟨f4, a4, n4, rfl, rfl, -, -, -, x8, -, -⟩ := h.t.n.form
  have hlt := h.lt
  have c0 := h.a.s.1
  have c1 := h.a.t.1
  have c2 := h.b.s.1
  have c3 := h.b.t.1
  have hq1 : 0 ≤ (n1 : Int) := by omega
  have hq2 : 0 ≤ (n2 : Int) := by omega
  clear h
  by_cases hnn : n1 = n2
  · have hn12 : nl b - 2 = nl a - 2 := by
      rw [hn1, hn2] at hnn
      unfold ml at hnn
      split at hnn <;> split at hnn <;> omega
    have hta := top_lt x3
    have htb := top_lt x6
    rw [hn12] at htb
    have hlp := fun A B C D => @Bl.lp A B C D a b (nl a - 2)
    have TA := Lib.hid (fun W (h : EB W g (.int .u64 f1) (.slice a1 n1 n1) (.int .u64 f2) (.slice a2 n2 n2) (.int .u64 f3) (.slice a3 n3 n3) (.int .u64 f4) (.slice a4 n4 n4) mn a b s t) => top_any _ _ a W h.a.n)
    have htb' := fun W (h : EB W g (.int .u64 f1) (.slice a1 n1 n1) (.int .u64 f2) (.slice a2 n2 n2) (.int .u64 f3) (.slice a3 n3 n3) (.int .u64 f4) (.slice a4 n4 n4) mn a b s t) => top_any _ _ b W h.b.n
    rw [hn12] at htb'
    have TB := Lib.hid htb'
    obtain ⟨x0, hx0⟩ : ∃ x0, x0 = a / bp (nl a - 2) := ⟨_, rfl⟩
    obtain ⟨y0, hy0⟩ : ∃ y0, y0 = b / bp (nl a - 2) := ⟨_, rfl⟩
    rw [← hx0] at TA hta hlp
    rw [← hy0] at TB htb hlp
    have FO := Lib.hid (fun W => foresee_any x0 y0 W hta.1 htb.1 hta.2 htb.2)
    have LP := Lib.hid hlp
    have HXY := Lib.hid (show (0 ≤ a ∧ 0 ≤ b) ∧ (0 ≤ s ∧ 0 ≤ t) from ⟨⟨x3, x6⟩, x7, x8⟩)
    clear hta htb hlp htb' hx0 hy0 hn12 hn1 hn2 x3 x6 x7 x8
    subst hnn
    have hne : (((n1 : Int)) != n1) = false := by simp
    go_enter Tryz.func224, Tryz.ntmps224
    go_wp2
    go_region
    all_goals go_upto_region 3 with fail
    go_cut [3, 4] from 19 (fun x y W => ∃ k2 k3 A B C D, x = .pointer (some ⟨k2, 0, none⟩) ∧ y = .pointer (some ⟨k3, 0, none⟩) ∧ Bl x0 y0 A B C D ∧ LC w W g k2 k3 A B C D (.int .u64 f1) (.slice a1 n1 n1) (.int .u64 f2) (.slice a2 n1 n1) (.int .u64 f3) (.slice a3 n3 n3) (.int .u64 f4) (.slice a4 n4 n4) mn a b s t)
    case first =>
      go_region_held3 (fun W => (W.cell? ⟨g, 0, none⟩ = some (.int .u64 f1) ∧ W.cell? ⟨g, 1, none⟩ = some (.slice a1 n1 n1) ∧ W.cell? ⟨g, 2, none⟩ = some (.int .u64 f2) ∧ W.cell? ⟨g, 3, none⟩ = some (.slice a2 n1 n1)) ∧ Below w.heap.size w W) ((refine SK EH.out ?_; repeat (first | with_reducible exact HB3.out | with_reducible exact HB2.out | with_reducible exact HB1.out | with_reducible exact below_drew _ | with_reducible exact Below.refl _ _ | with_reducible refine Below.drew ?_ | with_reducible refine below_set ?_ _ (by first | omega | (simp; omega)) _ | with_reducible refine below_more ?_))) (first | (go_at_call 235; have hH := ‹(_ ∧ _) ∧ Below w.heap.size w _›; (with_reducible refine Calls.mono (TA.out _ ?hv) ?_); (case hv => exact EH.out.step hH.2); rintro e w1 ⟨rfl, hb1⟩; have HB1 := Lib.hid (hH.2.trans (hb1.mono hH.2.size)); have hs1 := HB1.out.size; (try (refine with_fact (p := Bx w1 w.heap.size) ?_ (fun y1 => ?_); focus (refine Bx.below ?_ hb1; (repeat (first | exact y1 | exact y2 | exact z1 | exact z2 | exact z3 | exact z4 | exact y3 | exact y4 | with_reducible exact bx_new _ _ _ _ _ (by first | rfl | (simp; done) | (simp; omega)) | with_reducible refine bx_drew ?_ | with_reducible refine bx_more ?_)); done))); (try (refine with_fact (p := Bx w1 (w.heap.size + 1)) ?_ (fun y2 => ?_); focus (refine Bx.below ?_ hb1; (repeat (first | exact y1 | exact y2 | exact z1 | exact z2 | exact z3 | exact z4 | exact y3 | exact y4 | with_reducible exact bx_new _ _ _ _ _ (by first | rfl | (simp; done) | (simp; omega)) | with_reducible refine bx_drew ?_ | with_reducible refine bx_more ?_)); done))); (try (refine with_fact (p := Bx w1 w2.heap.size) ?_ (fun y3 => ?_); focus (refine Bx.below ?_ hb1; (repeat (first | exact y1 | exact y2 | exact z1 | exact z2 | exact z3 | exact z4 | exact y3 | exact y4 | with_reducible exact bx_new _ _ _ _ _ (by first | rfl | (simp; done) | (simp; omega)) | with_reducible refine bx_drew ?_ | with_reducible refine bx_more ?_)); done))); (try (refine with_fact (p := Bx w1 (w2.heap.size + 1)) ?_ (fun y4 => ?_); focus (refine Bx.below ?_ hb1; (repeat (first | exact y1 | exact y2 | exact z1 | exact z2 | exact z3 | exact z4 | exact y3 | exact y4 | with_reducible exact bx_new _ _ _ _ _ (by first | rfl | (simp; done) | (simp; omega)) | with_reducible refine bx_drew ?_ | with_reducible refine bx_more ?_)); done))); have hz1 := hb1.size; (repeat (first | rw [World.size_drew] at hz1 | rw [World.size_alloc] at hz1)); clear hH hb1) | (go_at_call 235; have hH := ‹(_ ∧ _) ∧ Below w.heap.size w _›; (with_reducible refine Calls.mono (TB.out _ ?hv) ?_); (case hv => exact EH.out.step hH.2); rintro e w2 ⟨rfl, hb2⟩; have HB2 := Lib.hid (hH.2.trans (hb2.mono hH.2.size)); have hs2 := HB2.out.size; (try (refine with_fact (p := Bx w2 w.heap.size) ?_ (fun z1 => ?_); focus (refine Bx.below ?_ hb2; (repeat (first | exact y1 | exact y2 | exact z1 | exact z2 | exact z3 | exact z4 | exact y3 | exact y4 | with_reducible exact bx_new _ _ _ _ _ (by first | rfl | (simp; done) | (simp; omega)) | with_reducible refine bx_drew ?_ | with_reducible refine bx_more ?_)); done))); (try (refine with_fact (p := Bx w2 (w.heap.size + 1)) ?_ (fun z2 => ?_); focus (refine Bx.below ?_ hb2; (repeat (first | exact y1 | exact y2 | exact z1 | exact z2 | exact z3 | exact z4 | exact y3 | exact y4 | with_reducible exact bx_new _ _ _ _ _ (by first | rfl | (simp; done) | (simp; omega)) | with_reducible refine bx_drew ?_ | with_reducible refine bx_more ?_)); done))); (try (refine with_fact (p := Bx w2 w1.heap.size) ?_ (fun z3 => ?_); focus (refine Bx.below ?_ hb2; (repeat (first | exact y1 | exact y2 | exact z1 | exact z2 | exact z3 | exact z4 | exact y3 | exact y4 | with_reducible exact bx_new _ _ _ _ _ (by first | rfl | (simp; done) | (simp; omega)) | with_reducible refine bx_drew ?_ | with_reducible refine bx_more ?_)); done))); (try (refine with_fact (p := Bx w2 (w1.heap.size + 1)) ?_ (fun z4 => ?_); focus (refine Bx.below ?_ hb2; (repeat (first | exact y1 | exact y2 | exact z1 | exact z2 | exact z3 | exact z4 | exact y3 | exact y4 | with_reducible exact bx_new _ _ _ _ _ (by first | rfl | (simp; done) | (simp; omega)) | with_reducible refine bx_drew ?_ | with_reducible refine bx_more ?_)); done))); have hz2 := hb2.size; (repeat (first | rw [World.size_drew] at hz2 | rw [World.size_alloc] at hz2)); clear hH hb2) | (go_at_call 234; have hH := ‹(_ ∧ _) ∧ Below w.heap.size w _›; (with_reducible refine Calls.mono (FO.out _) ?_); rintro e w3 ⟨A, B, C, D, rfl, hbl, hb3⟩; have HBL := Lib.hid hbl; have HB3 := Lib.hid (hH.2.trans (hb3.mono hH.2.size)); have hs3 := HB3.out.size; (try (refine with_fact (p := Bx w3 w.heap.size) ?_ (fun t1 => ?_); focus (refine Bx.below ?_ hb3; (repeat (first | exact y1 | exact y2 | exact z1 | exact z2 | exact z3 | exact z4 | exact y3 | exact y4 | with_reducible exact bx_new _ _ _ _ _ (by first | rfl | (simp; done) | (simp; omega)) | with_reducible refine bx_drew ?_ | with_reducible refine bx_more ?_)); done))); (try (refine with_fact (p := Bx w3 (w.heap.size + 1)) ?_ (fun t2 => ?_); focus (refine Bx.below ?_ hb3; (repeat (first | exact y1 | exact y2 | exact z1 | exact z2 | exact z3 | exact z4 | exact y3 | exact y4 | with_reducible exact bx_new _ _ _ _ _ (by first | rfl | (simp; done) | (simp; omega)) | with_reducible refine bx_drew ?_ | with_reducible refine bx_more ?_)); done))); (try (refine with_fact (p := Bx w3 w1.heap.size) ?_ (fun t3 => ?_); focus (refine Bx.below ?_ hb3; (repeat (first | exact y1 | exact y2 | exact z1 | exact z2 | exact z3 | exact z4 | exact y3 | exact y4 | with_reducible exact bx_new _ _ _ _ _ (by first | rfl | (simp; done) | (simp; omega)) | with_reducible refine bx_drew ?_ | with_reducible refine bx_more ?_)); done))); (try (refine with_fact (p := Bx w3 (w1.heap.size + 1)) ?_ (fun t4 => ?_); focus (refine Bx.below ?_ hb3; (repeat (first | exact y1 | exact y2 | exact z1 | exact z2 | exact z3 | exact z4 | exact y3 | exact y4 | with_reducible exact bx_new _ _ _ _ _ (by first | rfl | (simp; done) | (simp; omega)) | with_reducible refine bx_drew ?_ | with_reducible refine bx_more ?_)); done))); (try (refine with_fact (p := Bx w3 w2.heap.size) ?_ (fun t5 => ?_); focus (refine Bx.below ?_ hb3; (repeat (first | exact y1 | exact y2 | exact z1 | exact z2 | exact z3 | exact z4 | exact y3 | exact y4 | with_reducible exact bx_new _ _ _ _ _ (by first | rfl | (simp; done) | (simp; omega)) | with_reducible refine bx_drew ?_ | with_reducible refine bx_more ?_)); done))); (try (refine with_fact (p := Bx w3 (w2.heap.size + 1)) ?_ (fun t6 => ?_); focus (refine Bx.below ?_ hb3; (repeat (first | exact y1 | exact y2 | exact z1 | exact z2 | exact z3 | exact z4 | exact y3 | exact y4 | with_reducible exact bx_new _ _ _ _ _ (by first | rfl | (simp; done) | (simp; omega)) | with_reducible refine bx_drew ?_ | with_reducible refine bx_more ?_)); done))); have hz3 := hb3.size; (repeat (first | rw [World.size_drew] at hz3 | rw [World.size_alloc] at hz3)); (try clear y1); (try clear y2); (try clear y3); (try clear y4); (try clear z1); (try clear z2); (try clear z3); (try clear z4); (try (obtain ⟨⟨_, g11, g12⟩, _, g13, g14⟩ := t1)); (try (obtain ⟨⟨_, g21, g22⟩, _, g23, g24⟩ := t2)); (try (obtain ⟨⟨_, g31, g32⟩, _, g33, g34⟩ := t3)); (try (obtain ⟨⟨_, g41, g42⟩, _, g43, g44⟩ := t4)); (try (obtain ⟨⟨_, g51, g52⟩, _, g53, g54⟩ := t5)); (try (obtain ⟨⟨_, g61, g62⟩, _, g63, g64⟩ := t6)); (try (have n01 : w.heap.size ≠ w1.heap.size := by omega)); (try (have n10 : w1.heap.size ≠ w.heap.size := by omega)); (first | (have m01 : w.heap.size < w1.heap.size := by omega) | (have m01 : w1.heap.size < w.heap.size := by omega) | skip); (try (have n02 : w.heap.size ≠ w2.heap.size := by omega)); (try (have n20 : w2.heap.size ≠ w.heap.size := by omega)); (first | (have m02 : w.heap.size < w2.heap.size := by omega) | (have m02 : w2.heap.size < w.heap.size := by omega) | skip); (try (have n03 : w.heap.size ≠ w3.heap.size := by omega)); (try (have n30 : w3.heap.size ≠ w.heap.size := by omega)); (first | (have m03 : w.heap.size < w3.heap.size := by omega) | (have m03 : w3.heap.size < w.heap.size := by omega) | skip); (try (have n12 : w1.heap.size ≠ w2.heap.size := by omega)); (try (have n21 : w2.heap.size ≠ w1.heap.size := by omega)); (first | (have m12 : w1.heap.size < w2.heap.size := by omega) | (have m12 : w2.heap.size < w1.heap.size := by omega) | skip); (try (have n13 : w1.heap.size ≠ w3.heap.size := by omega)); (try (have n31 : w3.heap.size ≠ w1.heap.size := by omega)); (first | (have m13 : w1.heap.size < w3.heap.size := by omega) | (have m13 : w3.heap.size < w1.heap.size := by omega) | skip); (try (have n23 : w2.heap.size ≠ w3.heap.size := by omega)); (try (have n32 : w3.heap.size ≠ w2.heap.size := by omega)); (first | (have m23 : w2.heap.size < w3.heap.size := by omega) | (have m23 : w3.heap.size < w2.heap.size := by omega) | skip); clear hH hbl hb3))
      all_goals (go_wp2_with fail; go_meet; case rel => (refine ⟨_, _, A, B, C, D, rfl, rfl, HBL.out, lc_of EH.out ?_ ?_ ?_ ?_ ?_ ?_ ?_⟩ <;> first | first | omega | (simp; omega) | ((repeat (first | with_reducible exact HB3.out | with_reducible exact HB2.out | with_reducible exact HB1.out | with_reducible exact below_drew _ | with_reducible exact Below.refl _ _ | with_reducible refine Below.drew ?_ | with_reducible refine below_set ?_ _ (by first | omega | (simp; omega)) _ | with_reducible refine below_more ?_)); done) | ((repeat (first | ((with_reducible refine slotO_put ?_); (repeat (first | with_reducible exact slotx_at g11 g12 | with_reducible exact slotx_at g13 g14 | with_reducible exact slotx_at g21 g22 | with_reducible exact slotx_at g23 g24 | with_reducible exact slotx_at g31 g32 | with_reducible exact slotx_at g33 g34 | with_reducible exact slotx_at g41 g42 | with_reducible exact slotx_at g43 g44 | with_reducible exact slotx_at g51 g52 | with_reducible exact slotx_at g53 g54 | with_reducible exact slotx_at g61 g62 | with_reducible exact slotx_at g63 g64 | with_reducible exact slotx_new0 _ _ _ _ _ (by first | rfl | (simp; done) | (simp; omega)) | with_reducible exact slotx_new1 _ _ _ _ _ (by first | rfl | (simp; done) | (simp; omega)) | with_reducible refine slotx_set ?_ | with_reducible refine slotx_more ?_)); done) | with_reducible refine slotO_other ?_ (by omega) | with_reducible exact slotO_new0 _ _ _ _ _ (by first | rfl | (simp; done) | (simp; omega)) | with_reducible exact slotO_new1 _ _ _ _ _ (by first | rfl | (simp; done) | (simp; omega)) | with_reducible refine slotO_more ?_)); done)))
    case rest =>
    obtain ⟨k2, k3, A, B, C, D, rfl, rfl, hbl, hlc⟩ := hcut
    have HL := Lib.hid (LP.out A B C D hbl)
    have L0 := Lib.hid hlc
    obtain ⟨d1, d2⟩ := hlc.q
    clear hlc hbl LP TA TB FO c0 c1 c2 c3 hne hq1 hq2
    by_cases hB : B = 0
    · have hb0 : (B == 0) = true := by rw [beq_iff_eq]; exact hB
      go_wp2
      go_ret
      exact ⟨L0.out.below, Or.inl ⟨rfl, _, _, _, _, _, _, _, _, L0.out.eb⟩⟩
    have hb1 : (B == 0) = false := by rw [beq_eq_false_iff_ne]; exact hB
    obtain ⟨⟨a0, b0⟩, s0, t0⟩ := HXY.out
    have hp := HL.out
    have hAB : 0 ≤ A ∨ 0 ≤ B := by rcases hp.sgn with ⟨h1, _⟩ | ⟨_, h1, _⟩; exact Or.inl h1; exact Or.inr h1
    have hCD : 0 ≤ C ∨ 0 ≤ D := by rcases hp.sgn with ⟨_, _, _, h1, _⟩ | ⟨_, _, h1, _⟩; exact Or.inr h1; exact Or.inl (by omega)
    have MX1 := Lib.hid (fun W (h : LC w W g k2 k3 A B C D (.int .u64 f1) (.slice a1 n1 n1) (.int .u64 f2) (.slice a2 n1 n1) (.int .u64 f3) (.slice a3 n3 n3) (.int .u64 f4) (.slice a4 n4 n4) mn a b s t) => mix_any A B _ _ _ _ a b W h.eb.a.n h.eb.b.n (by omega) (by omega) hAB hp.a9.1 hp.a9.2 hp.b9.1 hp.b9.2 hp.x0)
    have MX2 := Lib.hid (fun W (h : LC w W g k2 k3 A B C D (.int .u64 f1) (.slice a1 n1 n1) (.int .u64 f2) (.slice a2 n1 n1) (.int .u64 f3) (.slice a3 n3 n3) (.int .u64 f4) (.slice a4 n4 n4) mn a b s t) => mix_any C D _ _ _ _ a b W h.eb.a.n h.eb.b.n (by omega) (by omega) hCD hp.c9.1 hp.c9.2 hp.d9.1 hp.d9.2 hp.y0)
    have AB1 := Lib.hid (fun W => abs_any A B W hp.a9.1 hp.a9.2 hp.b9.1 hp.b9.2)
    have AB2 := Lib.hid (fun W => abs_any C D W hp.c9.1 hp.c9.2 hp.d9.1 hp.d9.2)
    have L0D := Lib.hid (L0.out.step (below_drew _))
    clear hAB hCD hp
    go_upto_region 6 with fail
    go_cut [] from 35 (fun W => ∃ q1 v1 q2 v2, LC w W g k2 k3 A B C D q1 v1 q2 v2 (.int .u64 f3) (.slice a3 n3 n3) (.int .u64 f4) (.slice a4 n4 n4) mn (A * a + B * b) (C * a + D * b) s t)
    case first =>
      refine region_till (S := fun (W : World) => (W.cell? ⟨g, 0, none⟩ = some (.int .u64 f1) ∧ W.cell? ⟨g, 1, none⟩ = some (.slice a1 n1 n1) ∧ W.cell? ⟨g, 2, none⟩ = some (.int .u64 f2) ∧ W.cell? ⟨g, 3, none⟩ = some (.slice a2 n1 n1)) ∧ W.cell? ⟨k2, 0, none⟩ = some (.int .i64 A) ∧ W.cell? ⟨k2, 1, none⟩ = some (.int .i64 B) ∧ W.cell? ⟨k3, 0, none⟩ = some (.int .i64 C) ∧ W.cell? ⟨k3, 1, none⟩ = some (.int .i64 D)) (M := 22) (by kernel_rfl) ?_
      have hS0 : (fun (W : World) => (W.cell? ⟨g, 0, none⟩ = some (.int .u64 f1) ∧ W.cell? ⟨g, 1, none⟩ = some (.slice a1 n1 n1) ∧ W.cell? ⟨g, 2, none⟩ = some (.int .u64 f2) ∧ W.cell? ⟨g, 3, none⟩ = some (.slice a2 n1 n1)) ∧ W.cell? ⟨k2, 0, none⟩ = some (.int .i64 A) ∧ W.cell? ⟨k2, 1, none⟩ = some (.int .i64 B) ∧ W.cell? ⟨k3, 0, none⟩ = some (.int .i64 C) ∧ W.cell? ⟨k3, 1, none⟩ = some (.int .i64 D)) _ := ⟨⟨L0D.out.eb.a.s.1, L0D.out.eb.a.t.1, L0D.out.eb.b.s.1, L0D.out.eb.b.t.1⟩, L0D.out.p.1, L0D.out.q.1, L0D.out.r.1, L0D.out.u.1⟩
      refine till_any (i := 0) (v := ?_) rfl rfl (by kernel_rfl) (by kernel_rfl) (by kernel_rfl) (fun _ _ _ h => h) hS0 (Or.inl ⟨by rfl, ?_⟩) ?_
      rotate_left
      · ((intro W hW; (try dsimp only at hW); go_simp) <;> (with_reducible rfl))
      try simp only [Act.put, List.setIfInBounds_toArray, List.set_cons_zero, List.set_cons_succ, List.getElem_toArray, List.getElem_cons_zero]
      refine till_any (i := 1) (v := ?_) rfl rfl (by kernel_rfl) (by kernel_rfl) (by kernel_rfl) (fun _ _ _ h => h) hS0 (Or.inl ⟨by rfl, ?_⟩) ?_
      rotate_left
      · ((intro W hW; (try dsimp only at hW); go_simp) <;> (with_reducible rfl))
      try simp only [Act.put, List.setIfInBounds_toArray, List.set_cons_zero, List.set_cons_succ, List.getElem_toArray, List.getElem_cons_succ, List.getElem_cons_zero]
      refine till_held (i := 2) (v := ?_) [2, 22] rfl rfl (by kernel_rfl) (by kernel_rfl) (by kernel_rfl) (by kernel_rfl) (fun _ _ _ h => h) hS0 (Or.inl ⟨by rfl, ?_⟩) ?_
      rotate_left
      · ((intro W hW; (try dsimp only at hW); go_simp) <;> (with_reducible rfl))
      try simp only [Act.put, List.setIfInBounds_toArray, List.set_cons_zero, List.set_cons_succ, List.getElem_toArray, List.getElem_cons_succ, List.getElem_cons_zero]
      refine till_any (i := 3) (v := ?_) rfl rfl (by kernel_rfl) (by kernel_rfl) (by kernel_rfl) (fun _ _ _ h => h) hS0 (Or.inl ⟨by rfl, ?_⟩) ?_
      rotate_left
      · ((intro W hW; (try dsimp only at hW); go_simp) <;> (with_reducible rfl))
      try simp only [Act.put, List.setIfInBounds_toArray, List.set_cons_zero, List.set_cons_succ, List.getElem_toArray, List.getElem_cons_succ, List.getElem_cons_zero]
      refine till_any (i := 4) (v := ?_) rfl rfl (by kernel_rfl) (by kernel_rfl) (by kernel_rfl) (fun _ _ _ h => h) hS0 (Or.inl ⟨by rfl, ?_⟩) ?_
      rotate_left
      · ((intro W hW; (try dsimp only at hW); go_simp) <;> (with_reducible rfl))
      try simp only [Act.put, List.setIfInBounds_toArray, List.set_cons_zero, List.set_cons_succ, List.getElem_toArray, List.getElem_cons_succ, List.getElem_cons_zero]
      refine till_any (i := 5) (v := ?_) rfl rfl (by kernel_rfl) (by kernel_rfl) (by kernel_rfl) (fun _ _ _ h => h) hS0 (Or.inl ⟨by rfl, ?_⟩) ?_
      rotate_left
      · ((intro W hW; (try dsimp only at hW); go_simp) <;> (with_reducible rfl))
      try simp only [Act.put, List.setIfInBounds_toArray, List.set_cons_zero, List.set_cons_succ, List.getElem_toArray, List.getElem_cons_succ, List.getElem_cons_zero]
      refine till_held (i := 6) (v := ?_) [6, 22] rfl rfl (by kernel_rfl) (by kernel_rfl) (by kernel_rfl) (by kernel_rfl) (fun _ _ _ h => h) hS0 (Or.inl ⟨by rfl, ?_⟩) ?_
      rotate_left
      · ((intro W hW; (try dsimp only at hW); go_simp) <;> (with_reducible rfl))
      try simp only [Act.put, List.setIfInBounds_toArray, List.set_cons_zero, List.set_cons_succ, List.getElem_toArray, List.getElem_cons_succ, List.getElem_cons_zero]
      refine till_any (i := 7) (v := ?_) rfl rfl (by kernel_rfl) (by kernel_rfl) (by kernel_rfl) (fun _ _ _ h => h) hS0 (Or.inl ⟨by rfl, ?_⟩) ?_
      rotate_left
      · ((intro W hW; (try dsimp only at hW); go_simp) <;> (with_reducible rfl))
      try simp only [Act.put, List.setIfInBounds_toArray, List.set_cons_zero, List.set_cons_succ, List.getElem_toArray, List.getElem_cons_succ, List.getElem_cons_zero]
      refine till_any (i := 8) (v := ?_) rfl rfl (by kernel_rfl) (by kernel_rfl) (by kernel_rfl) (fun _ _ _ h => h) hS0 (Or.inl ⟨by rfl, ?_⟩) ?_
      rotate_left
      · ((intro W hW; (try dsimp only at hW); go_simp) <;> (with_reducible rfl))
      try simp only [Act.put, List.setIfInBounds_toArray, List.set_cons_zero, List.set_cons_succ, List.getElem_toArray, List.getElem_cons_succ, List.getElem_cons_zero]
      refine till_any (i := 9) (v := ?_) rfl rfl (by kernel_rfl) (by kernel_rfl) (by kernel_rfl) (fun _ _ _ h => h) hS0 (Or.inl ⟨by rfl, ?_⟩) ?_
      rotate_left
      · ((intro W hW; (try dsimp only at hW); go_simp) <;> (with_reducible rfl))
      try simp only [Act.put, List.setIfInBounds_toArray, List.set_cons_zero, List.set_cons_succ, List.getElem_toArray, List.getElem_cons_succ, List.getElem_cons_zero]
      refine till_held (i := 10) (v := ?_) [10, 22] rfl rfl (by kernel_rfl) (by kernel_rfl) (by kernel_rfl) (by kernel_rfl) (fun _ _ _ h => h) hS0 (Or.inl ⟨by rfl, ?_⟩) ?_
      rotate_left
      · ((intro W hW; (try dsimp only at hW); go_simp) <;> (with_reducible rfl))
      try simp only [Act.put, List.setIfInBounds_toArray, List.set_cons_zero, List.set_cons_succ, List.getElem_toArray, List.getElem_cons_succ, List.getElem_cons_zero]
      refine till_held (i := 12) (v := ?_) [12, 21, 22] rfl rfl (by kernel_rfl) (by kernel_rfl) (by kernel_rfl) (by kernel_rfl) (fun _ _ _ h => h) hS0 (Or.inl ⟨by rfl, ?_⟩) ?_
      rotate_left
      · ((intro W hW; (try dsimp only at hW); go_simp) <;> (with_reducible rfl))
      try simp only [Act.put, List.setIfInBounds_toArray, List.set_cons_zero, List.set_cons_succ, List.getElem_toArray, List.getElem_cons_succ, List.getElem_cons_zero]
      refine till_any (i := 13) (v := ?_) rfl rfl (by kernel_rfl) (by kernel_rfl) (by kernel_rfl) (fun _ _ _ h => h) hS0 (Or.inl ⟨by rfl, ?_⟩) ?_
      rotate_left
      · ((intro W hW; (try dsimp only at hW); go_simp) <;> (with_reducible rfl))
      try simp only [Act.put, List.setIfInBounds_toArray, List.set_cons_zero, List.set_cons_succ, List.getElem_toArray, List.getElem_cons_succ, List.getElem_cons_zero]
      refine till_any (i := 14) (v := ?_) rfl rfl (by kernel_rfl) (by kernel_rfl) (by kernel_rfl) (fun _ _ _ h => h) hS0 (Or.inl ⟨by rfl, ?_⟩) ?_
      rotate_left
      · ((intro W hW; (try dsimp only at hW); go_simp) <;> (with_reducible rfl))
      try simp only [Act.put, List.setIfInBounds_toArray, List.set_cons_zero, List.set_cons_succ, List.getElem_toArray, List.getElem_cons_succ, List.getElem_cons_zero]
      refine till_any (i := 15) (v := ?_) rfl rfl (by kernel_rfl) (by kernel_rfl) (by kernel_rfl) (fun _ _ _ h => h) hS0 (Or.inl ⟨by rfl, ?_⟩) ?_
      rotate_left
      · ((intro W hW; (try dsimp only at hW); go_simp) <;> (with_reducible rfl))
      try simp only [Act.put, List.setIfInBounds_toArray, List.set_cons_zero, List.set_cons_succ, List.getElem_toArray, List.getElem_cons_succ, List.getElem_cons_zero]
      refine till_held (i := 16) (v := ?_) [16, 22] rfl rfl (by kernel_rfl) (by kernel_rfl) (by kernel_rfl) (by kernel_rfl) (fun _ _ _ h => h) hS0 (Or.inl ⟨by rfl, ?_⟩) ?_
      rotate_left
      · ((intro W hW; (try dsimp only at hW); go_simp) <;> (with_reducible rfl))
      try simp only [Act.put, List.setIfInBounds_toArray, List.set_cons_zero, List.set_cons_succ, List.getElem_toArray, List.getElem_cons_succ, List.getElem_cons_zero]
      refine till_any (i := 17) (v := ?_) rfl rfl (by kernel_rfl) (by kernel_rfl) (by kernel_rfl) (fun _ _ _ h => h) hS0 (Or.inl ⟨by rfl, ?_⟩) ?_
      rotate_left
      · ((intro W hW; (try dsimp only at hW); go_simp) <;> (with_reducible rfl))
      try simp only [Act.put, List.setIfInBounds_toArray, List.set_cons_zero, List.set_cons_succ, List.getElem_toArray, List.getElem_cons_succ, List.getElem_cons_zero]
      refine till_any (i := 18) (v := ?_) rfl rfl (by kernel_rfl) (by kernel_rfl) (by kernel_rfl) (fun _ _ _ h => h) hS0 (Or.inl ⟨by rfl, ?_⟩) ?_
      rotate_left
      · ((intro W hW; (try dsimp only at hW); go_simp) <;> (with_reducible rfl))
      try simp only [Act.put, List.setIfInBounds_toArray, List.set_cons_zero, List.set_cons_succ, List.getElem_toArray, List.getElem_cons_succ, List.getElem_cons_zero]
      refine till_any (i := 19) (v := ?_) rfl rfl (by kernel_rfl) (by kernel_rfl) (by kernel_rfl) (fun _ _ _ h => h) hS0 (Or.inl ⟨by rfl, ?_⟩) ?_
      rotate_left
      · ((intro W hW; (try dsimp only at hW); go_simp) <;> (with_reducible rfl))
      try simp only [Act.put, List.setIfInBounds_toArray, List.set_cons_zero, List.set_cons_succ, List.getElem_toArray, List.getElem_cons_succ, List.getElem_cons_zero]
      refine till_held (i := 20) (v := ?_) [20, 22] rfl rfl (by kernel_rfl) (by kernel_rfl) (by kernel_rfl) (by kernel_rfl) (fun _ _ _ h => h) hS0 (Or.inl ⟨by rfl, ?_⟩) ?_
      rotate_left
      · ((intro W hW; (try dsimp only at hW); go_simp) <;> (with_reducible rfl))
      try simp only [Act.put, List.setIfInBounds_toArray, List.set_cons_zero, List.set_cons_succ, List.getElem_toArray, List.getElem_cons_succ, List.getElem_cons_zero]
      refine till_one (i := 11) rfl (by kernel_rfl) (fun K hK => ?_)
      go_simp
      refine Calls.mono (MX1.out _ L0D.out) ?_
      rintro e w1 ⟨q1, v1, rfl, hv1, hb1⟩
      have L1 := Lib.hid (L0D.out.step hb1)
      obtain ⟨o1, p1, l1, rfl, rfl, -, -, -, -, -, -⟩ := hv1.form
      skip
      have V1 := Lib.hid hv1
      clear hv1 hb1
      have hS1 : (fun (W : World) => (W.cell? ⟨g, 0, none⟩ = some (.int .u64 f1) ∧ W.cell? ⟨g, 1, none⟩ = some (.slice a1 n1 n1) ∧ W.cell? ⟨g, 2, none⟩ = some (.int .u64 f2) ∧ W.cell? ⟨g, 3, none⟩ = some (.slice a2 n1 n1)) ∧ W.cell? ⟨k2, 0, none⟩ = some (.int .i64 A) ∧ W.cell? ⟨k2, 1, none⟩ = some (.int .i64 B) ∧ W.cell? ⟨k3, 0, none⟩ = some (.int .i64 C) ∧ W.cell? ⟨k3, 1, none⟩ = some (.int .i64 D)) w1 := ⟨⟨L1.out.eb.a.s.1, L1.out.eb.a.t.1, L1.out.eb.b.s.1, L1.out.eb.b.t.1⟩, L1.out.p.1, L1.out.q.1, L1.out.r.1, L1.out.u.1⟩
      go_wp2_with fail
      refine hK.out _ _ ⟨fun _ => hS1, ?_⟩
      clear hK K
      try simp only [Act.put, List.setIfInBounds_toArray, List.set_cons_zero, List.set_cons_succ, List.getElem_toArray, List.getElem_cons_succ, List.getElem_cons_zero]
      refine till_one (i := 21) rfl (by kernel_rfl) (fun K hK => ?_)
      go_simp
      refine Calls.mono (MX2.out _ L1.out) ?_
      rintro e w2 ⟨q2, v2, rfl, hv2, hb2⟩
      have L2 := Lib.hid (L1.out.step hb2)
      obtain ⟨o2, p2, l2, rfl, rfl, -, -, -, -, -, -⟩ := hv2.form
      skip
      have V1b := Lib.hid (V1.out.below hb2)
      have V2 := Lib.hid hv2
      clear hv2 hb2
      have hS2 : (fun (W : World) => (W.cell? ⟨g, 0, none⟩ = some (.int .u64 f1) ∧ W.cell? ⟨g, 1, none⟩ = some (.slice a1 n1 n1) ∧ W.cell? ⟨g, 2, none⟩ = some (.int .u64 f2) ∧ W.cell? ⟨g, 3, none⟩ = some (.slice a2 n1 n1)) ∧ W.cell? ⟨k2, 0, none⟩ = some (.int .i64 A) ∧ W.cell? ⟨k2, 1, none⟩ = some (.int .i64 B) ∧ W.cell? ⟨k3, 0, none⟩ = some (.int .i64 C) ∧ W.cell? ⟨k3, 1, none⟩ = some (.int .i64 D)) w2 := ⟨⟨L2.out.eb.a.s.1, L2.out.eb.a.t.1, L2.out.eb.b.s.1, L2.out.eb.b.t.1⟩, L2.out.p.1, L2.out.q.1, L2.out.r.1, L2.out.u.1⟩
      obtain ⟨⟨b1, b2⟩, ⟨b3, b4⟩, _⟩ := L2.out.eb.a
      obtain ⟨⟨b5, b6⟩, ⟨b7, b8⟩, _⟩ := L2.out.eb.b
      go_wp2_with fail
      refine hK.out _ _ ⟨fun _ => hS2, ?_⟩
      clear hK K
      try simp only [Act.put, List.setIfInBounds_toArray, List.set_cons_zero, List.set_cons_succ, List.getElem_toArray, List.getElem_cons_succ, List.getElem_cons_zero]
      refine till_one (i := 22) rfl (by kernel_rfl) (fun K hK => ?_)
      go_simp
      refine hK.out _ _ ⟨fun h => absurd h (by simp), ?_⟩
      clear hK K
      try simp only [Act.put, List.setIfInBounds_toArray, List.set_cons_zero, List.set_cons_succ, List.getElem_toArray, List.getElem_cons_succ, List.getElem_cons_zero]
      refine till_one (i := 23) rfl (by kernel_rfl) (fun K hK => ?_)
      go_simp
      refine hK.out _ _ ⟨fun h => absurd h (by simp), ?_⟩
      clear hK K
      try simp only [Act.put, List.setIfInBounds_toArray, List.set_cons_zero, List.set_cons_succ, List.getElem_toArray, List.getElem_cons_succ, List.getElem_cons_zero]
      refine till_one (i := 24) rfl (by kernel_rfl) (fun K hK => ?_)
      go_simp
      refine hK.out _ _ ⟨fun h => absurd h (by simp), ?_⟩
      clear hK K
      try simp only [Act.put, List.setIfInBounds_toArray, List.set_cons_zero, List.set_cons_succ, List.getElem_toArray, List.getElem_cons_succ, List.getElem_cons_zero]
      refine till_one (i := 25) rfl (by kernel_rfl) (fun K hK => ?_)
      go_simp
      refine hK.out _ _ ⟨fun h => absurd h (by simp), ?_⟩
      clear hK K
      try simp only [Act.put, List.setIfInBounds_toArray, List.set_cons_zero, List.set_cons_succ, List.getElem_toArray, List.getElem_cons_succ, List.getElem_cons_zero]
      refine till_one (i := 26) rfl (by kernel_rfl) (fun K hK => ?_)
      go_simp
      refine hK.out _ _ ⟨fun h => absurd h (by simp), ?_⟩
      clear hK K
      try simp only [Act.put, List.setIfInBounds_toArray, List.set_cons_zero, List.set_cons_succ, List.getElem_toArray, List.getElem_cons_succ, List.getElem_cons_zero]
      refine till_one (i := 27) rfl (by kernel_rfl) (fun K hK => ?_)
      go_simp
      refine hK.out _ _ ⟨fun h => absurd h (by simp), ?_⟩
      clear hK K
      try simp only [Act.put, List.setIfInBounds_toArray, List.set_cons_zero, List.set_cons_succ, List.getElem_toArray, List.getElem_cons_succ, List.getElem_cons_zero]
      refine till_done (by kernel_rfl) ?_
      go_wp2_with fail
      go_meet
      case rel => exact ⟨_, _, _, _, L2.out.put01 V1b.out V2.out⟩
    case rest =>
      obtain ⟨q1, v1, q2, v2, hlc⟩ := hcut
      have M0 := Lib.hid hlc
      clear hlc MX1 MX2 L0 L0D
      have hp := HL.out
      have hx0 : 0 ≤ (A.natAbs : Int) * s + B.natAbs * t := Int.add_nonneg (Int.mul_nonneg (by omega) s0) (Int.mul_nonneg (by omega) t0)
      have hy0 : 0 ≤ (C.natAbs : Int) * s + D.natAbs * t := Int.add_nonneg (Int.mul_nonneg (by omega) s0) (Int.mul_nonneg (by omega) t0)
      obtain ⟨qa1, qa2⟩ := hp.a9
      obtain ⟨qb1, qb2⟩ := hp.b9
      obtain ⟨qc1, qc2⟩ := hp.c9
      obtain ⟨qd1, qd2⟩ := hp.d9
      have MX3 := Lib.hid (fun W (h : LC w W g k2 k3 A B C D q1 v1 q2 v2 (.int .u64 f3) (.slice a3 n3 n3) (.int .u64 f4) (.slice a4 n4 n4) mn (A * a + B * b) (C * a + D * b) s t) => mix_any A.natAbs B.natAbs _ _ _ _ s t W h.eb.s.n h.eb.t.n (by omega) (by omega) (by omega) (by omega) (by omega) (by omega) (by omega) hx0)
      have MX4 := Lib.hid (fun W (h : LC w W g k2 k3 A B C D q1 v1 q2 v2 (.int .u64 f3) (.slice a3 n3 n3) (.int .u64 f4) (.slice a4 n4 n4) mn (A * a + B * b) (C * a + D * b) s t) => mix_any C.natAbs D.natAbs _ _ _ _ s t W h.eb.s.n h.eb.t.n (by omega) (by omega) (by omega) (by omega) (by omega) (by omega) (by omega) hy0)
      have M0D := Lib.hid (M0.out.step (below_drew _))
      clear qa1 qa2 qb1 qb2 qc1 qc2 qd1 qd2 hx0 hy0 hp
      go_upto_region 7 with fail
      go_cut [] from 61 (fun W => ∃ q3 v3 q4 v4, LC w W g k2 k3 A B C D q1 v1 q2 v2 q3 v3 q4 v4 mn (A * a + B * b) (C * a + D * b) (A.natAbs * s + B.natAbs * t) (C.natAbs * s + D.natAbs * t))
      case first =>
        refine region_till (S := fun (W : World) => (W.cell? ⟨g, 4, none⟩ = some (.int .u64 f3) ∧ W.cell? ⟨g, 5, none⟩ = some (.slice a3 n3 n3) ∧ W.cell? ⟨g, 6, none⟩ = some (.int .u64 f4) ∧ W.cell? ⟨g, 7, none⟩ = some (.slice a4 n4 n4)) ∧ W.cell? ⟨k2, 0, none⟩ = some (.int .i64 A) ∧ W.cell? ⟨k2, 1, none⟩ = some (.int .i64 B) ∧ W.cell? ⟨k3, 0, none⟩ = some (.int .i64 C) ∧ W.cell? ⟨k3, 1, none⟩ = some (.int .i64 D)) (M := 24) (by kernel_rfl) ?_
        have hS0 : (fun (W : World) => (W.cell? ⟨g, 4, none⟩ = some (.int .u64 f3) ∧ W.cell? ⟨g, 5, none⟩ = some (.slice a3 n3 n3) ∧ W.cell? ⟨g, 6, none⟩ = some (.int .u64 f4) ∧ W.cell? ⟨g, 7, none⟩ = some (.slice a4 n4 n4)) ∧ W.cell? ⟨k2, 0, none⟩ = some (.int .i64 A) ∧ W.cell? ⟨k2, 1, none⟩ = some (.int .i64 B) ∧ W.cell? ⟨k3, 0, none⟩ = some (.int .i64 C) ∧ W.cell? ⟨k3, 1, none⟩ = some (.int .i64 D)) _ := ⟨⟨M0D.out.eb.s.s.1, M0D.out.eb.s.t.1, M0D.out.eb.t.s.1, M0D.out.eb.t.t.1⟩, M0D.out.p.1, M0D.out.q.1, M0D.out.r.1, M0D.out.u.1⟩
        refine till_any (i := 0) (v := ?_) rfl rfl (by kernel_rfl) (by kernel_rfl) (by kernel_rfl) (fun _ _ _ h => h) hS0 (Or.inl ⟨by rfl, ?_⟩) ?_
        rotate_left
        · ((intro W hW; (try dsimp only at hW); go_simp) <;> (with_reducible rfl))
        try simp only [Act.put, List.setIfInBounds_toArray, List.set_cons_zero, List.set_cons_succ, List.getElem_toArray, List.getElem_cons_zero]
        refine till_any (i := 1) (v := ?_) rfl rfl (by kernel_rfl) (by kernel_rfl) (by kernel_rfl) (fun _ _ _ h => h) hS0 (Or.inl ⟨by rfl, ?_⟩) ?_
        rotate_left
        · ((intro W hW; (try dsimp only at hW); go_simp) <;> (with_reducible rfl))
        try simp only [Act.put, List.setIfInBounds_toArray, List.set_cons_zero, List.set_cons_succ, List.getElem_toArray, List.getElem_cons_succ, List.getElem_cons_zero]
        refine till_held (i := 2) (v := ?_) [2, 24] rfl rfl (by kernel_rfl) (by kernel_rfl) (by kernel_rfl) (by kernel_rfl) (fun _ _ _ h => h) hS0 (Or.inl ⟨by rfl, ?_⟩) ?_
        rotate_left
        · ((intro W hW; (try dsimp only at hW); go_simp) <;> (with_reducible rfl))
        try simp only [Act.put, List.setIfInBounds_toArray, List.set_cons_zero, List.set_cons_succ, List.getElem_toArray, List.getElem_cons_succ, List.getElem_cons_zero]
        refine till_any (i := 4) (v := ?_) rfl rfl (by kernel_rfl) (by kernel_rfl) (by kernel_rfl) (fun _ _ _ h => h) hS0 (Or.inl ⟨by rfl, ?_⟩) ?_
        rotate_left
        · ((intro W hW; (try dsimp only at hW); go_simp) <;> (with_reducible rfl))
        try simp only [Act.put, List.setIfInBounds_toArray, List.set_cons_zero, List.set_cons_succ, List.getElem_toArray, List.getElem_cons_succ, List.getElem_cons_zero]
        refine till_any (i := 5) (v := ?_) rfl rfl (by kernel_rfl) (by kernel_rfl) (by kernel_rfl) (fun _ _ _ h => h) hS0 (Or.inl ⟨by rfl, ?_⟩) ?_
        rotate_left
        · ((intro W hW; (try dsimp only at hW); go_simp) <;> (with_reducible rfl))
        try simp only [Act.put, List.setIfInBounds_toArray, List.set_cons_zero, List.set_cons_succ, List.getElem_toArray, List.getElem_cons_succ, List.getElem_cons_zero]
        refine till_any (i := 6) (v := ?_) rfl rfl (by kernel_rfl) (by kernel_rfl) (by kernel_rfl) (fun _ _ _ h => h) hS0 (Or.inl ⟨by rfl, ?_⟩) ?_
        rotate_left
        · ((intro W hW; (try dsimp only at hW); go_simp) <;> (with_reducible rfl))
        try simp only [Act.put, List.setIfInBounds_toArray, List.set_cons_zero, List.set_cons_succ, List.getElem_toArray, List.getElem_cons_succ, List.getElem_cons_zero]
        refine till_held (i := 7) (v := ?_) [7, 24] rfl rfl (by kernel_rfl) (by kernel_rfl) (by kernel_rfl) (by kernel_rfl) (fun _ _ _ h => h) hS0 (Or.inl ⟨by rfl, ?_⟩) ?_
        rotate_left
        · ((intro W hW; (try dsimp only at hW); go_simp) <;> (with_reducible rfl))
        try simp only [Act.put, List.setIfInBounds_toArray, List.set_cons_zero, List.set_cons_succ, List.getElem_toArray, List.getElem_cons_succ, List.getElem_cons_zero]
        refine till_any (i := 8) (v := ?_) rfl rfl (by kernel_rfl) (by kernel_rfl) (by kernel_rfl) (fun _ _ _ h => h) hS0 (Or.inl ⟨by rfl, ?_⟩) ?_
        rotate_left
        · ((intro W hW; (try dsimp only at hW); go_simp) <;> (with_reducible rfl))
        try simp only [Act.put, List.setIfInBounds_toArray, List.set_cons_zero, List.set_cons_succ, List.getElem_toArray, List.getElem_cons_succ, List.getElem_cons_zero]
        refine till_any (i := 9) (v := ?_) rfl rfl (by kernel_rfl) (by kernel_rfl) (by kernel_rfl) (fun _ _ _ h => h) hS0 (Or.inl ⟨by rfl, ?_⟩) ?_
        rotate_left
        · ((intro W hW; (try dsimp only at hW); go_simp) <;> (with_reducible rfl))
        try simp only [Act.put, List.setIfInBounds_toArray, List.set_cons_zero, List.set_cons_succ, List.getElem_toArray, List.getElem_cons_succ, List.getElem_cons_zero]
        refine till_any (i := 10) (v := ?_) rfl rfl (by kernel_rfl) (by kernel_rfl) (by kernel_rfl) (fun _ _ _ h => h) hS0 (Or.inl ⟨by rfl, ?_⟩) ?_
        rotate_left
        · ((intro W hW; (try dsimp only at hW); go_simp) <;> (with_reducible rfl))
        try simp only [Act.put, List.setIfInBounds_toArray, List.set_cons_zero, List.set_cons_succ, List.getElem_toArray, List.getElem_cons_succ, List.getElem_cons_zero]
        refine till_held (i := 11) (v := ?_) [11, 24] rfl rfl (by kernel_rfl) (by kernel_rfl) (by kernel_rfl) (by kernel_rfl) (fun _ _ _ h => h) hS0 (Or.inl ⟨by rfl, ?_⟩) ?_
        rotate_left
        · ((intro W hW; (try dsimp only at hW); go_simp) <;> (with_reducible rfl))
        try simp only [Act.put, List.setIfInBounds_toArray, List.set_cons_zero, List.set_cons_succ, List.getElem_toArray, List.getElem_cons_succ, List.getElem_cons_zero]
        refine till_held (i := 13) (v := ?_) [13, 14, 23, 24] rfl rfl (by kernel_rfl) (by kernel_rfl) (by kernel_rfl) (by kernel_rfl) (fun _ _ _ h => h) hS0 (Or.inl ⟨by rfl, ?_⟩) ?_
        rotate_left
        · ((intro W hW; (try dsimp only at hW); go_simp) <;> (with_reducible rfl))
        try simp only [Act.put, List.setIfInBounds_toArray, List.set_cons_zero, List.set_cons_succ, List.getElem_toArray, List.getElem_cons_succ, List.getElem_cons_zero]
        refine till_any (i := 15) (v := ?_) rfl rfl (by kernel_rfl) (by kernel_rfl) (by kernel_rfl) (fun _ _ _ h => h) hS0 (Or.inl ⟨by rfl, ?_⟩) ?_
        rotate_left
        · ((intro W hW; (try dsimp only at hW); go_simp) <;> (with_reducible rfl))
        try simp only [Act.put, List.setIfInBounds_toArray, List.set_cons_zero, List.set_cons_succ, List.getElem_toArray, List.getElem_cons_succ, List.getElem_cons_zero]
        refine till_any (i := 16) (v := ?_) rfl rfl (by kernel_rfl) (by kernel_rfl) (by kernel_rfl) (fun _ _ _ h => h) hS0 (Or.inl ⟨by rfl, ?_⟩) ?_
        rotate_left
        · ((intro W hW; (try dsimp only at hW); go_simp) <;> (with_reducible rfl))
        try simp only [Act.put, List.setIfInBounds_toArray, List.set_cons_zero, List.set_cons_succ, List.getElem_toArray, List.getElem_cons_succ, List.getElem_cons_zero]
        refine till_any (i := 17) (v := ?_) rfl rfl (by kernel_rfl) (by kernel_rfl) (by kernel_rfl) (fun _ _ _ h => h) hS0 (Or.inl ⟨by rfl, ?_⟩) ?_
        rotate_left
        · ((intro W hW; (try dsimp only at hW); go_simp) <;> (with_reducible rfl))
        try simp only [Act.put, List.setIfInBounds_toArray, List.set_cons_zero, List.set_cons_succ, List.getElem_toArray, List.getElem_cons_succ, List.getElem_cons_zero]
        refine till_held (i := 18) (v := ?_) [18, 24] rfl rfl (by kernel_rfl) (by kernel_rfl) (by kernel_rfl) (by kernel_rfl) (fun _ _ _ h => h) hS0 (Or.inl ⟨by rfl, ?_⟩) ?_
        rotate_left
        · ((intro W hW; (try dsimp only at hW); go_simp) <;> (with_reducible rfl))
        try simp only [Act.put, List.setIfInBounds_toArray, List.set_cons_zero, List.set_cons_succ, List.getElem_toArray, List.getElem_cons_succ, List.getElem_cons_zero]
        refine till_any (i := 19) (v := ?_) rfl rfl (by kernel_rfl) (by kernel_rfl) (by kernel_rfl) (fun _ _ _ h => h) hS0 (Or.inl ⟨by rfl, ?_⟩) ?_
        rotate_left
        · ((intro W hW; (try dsimp only at hW); go_simp) <;> (with_reducible rfl))
        try simp only [Act.put, List.setIfInBounds_toArray, List.set_cons_zero, List.set_cons_succ, List.getElem_toArray, List.getElem_cons_succ, List.getElem_cons_zero]
        refine till_any (i := 20) (v := ?_) rfl rfl (by kernel_rfl) (by kernel_rfl) (by kernel_rfl) (fun _ _ _ h => h) hS0 (Or.inl ⟨by rfl, ?_⟩) ?_
        rotate_left
        · ((intro W hW; (try dsimp only at hW); go_simp) <;> (with_reducible rfl))
        try simp only [Act.put, List.setIfInBounds_toArray, List.set_cons_zero, List.set_cons_succ, List.getElem_toArray, List.getElem_cons_succ, List.getElem_cons_zero]
        refine till_any (i := 21) (v := ?_) rfl rfl (by kernel_rfl) (by kernel_rfl) (by kernel_rfl) (fun _ _ _ h => h) hS0 (Or.inl ⟨by rfl, ?_⟩) ?_
        rotate_left
        · ((intro W hW; (try dsimp only at hW); go_simp) <;> (with_reducible rfl))
        try simp only [Act.put, List.setIfInBounds_toArray, List.set_cons_zero, List.set_cons_succ, List.getElem_toArray, List.getElem_cons_succ, List.getElem_cons_zero]
        refine till_held (i := 22) (v := ?_) [22, 24] rfl rfl (by kernel_rfl) (by kernel_rfl) (by kernel_rfl) (by kernel_rfl) (fun _ _ _ h => h) hS0 (Or.inl ⟨by rfl, ?_⟩) ?_
        rotate_left
        · ((intro W hW; (try dsimp only at hW); go_simp) <;> (with_reducible rfl))
        try simp only [Act.put, List.setIfInBounds_toArray, List.set_cons_zero, List.set_cons_succ, List.getElem_toArray, List.getElem_cons_succ, List.getElem_cons_zero]
        refine till_one (i := 3) rfl (by kernel_rfl) (fun K hK => ?_)
        go_simp
        refine Calls.mono (AB1.out _) ?_
        rintro e w1 ⟨rfl, hb1⟩
        have M1 := Lib.hid (M0D.out.step hb1)
        clear hb1
        have hS1 : (fun (W : World) => (W.cell? ⟨g, 4, none⟩ = some (.int .u64 f3) ∧ W.cell? ⟨g, 5, none⟩ = some (.slice a3 n3 n3) ∧ W.cell? ⟨g, 6, none⟩ = some (.int .u64 f4) ∧ W.cell? ⟨g, 7, none⟩ = some (.slice a4 n4 n4)) ∧ W.cell? ⟨k2, 0, none⟩ = some (.int .i64 A) ∧ W.cell? ⟨k2, 1, none⟩ = some (.int .i64 B) ∧ W.cell? ⟨k3, 0, none⟩ = some (.int .i64 C) ∧ W.cell? ⟨k3, 1, none⟩ = some (.int .i64 D)) w1 := ⟨⟨M1.out.eb.s.s.1, M1.out.eb.s.t.1, M1.out.eb.t.s.1, M1.out.eb.t.t.1⟩, M1.out.p.1, M1.out.q.1, M1.out.r.1, M1.out.u.1⟩
        go_wp2_with fail
        refine hK.out _ _ ⟨fun _ => hS1, ?_⟩
        clear hK K
        try simp only [Act.put, List.setIfInBounds_toArray, List.set_cons_zero, List.set_cons_succ, List.getElem_toArray, List.getElem_cons_succ, List.getElem_cons_zero]
        refine till_one (i := 12) rfl (by kernel_rfl) (fun K hK => ?_)
        go_simp
        refine Calls.mono (MX3.out _ M1.out) ?_
        rintro e w2 ⟨q1, v1, rfl, hv1, hb2⟩
        have M2 := Lib.hid (M1.out.step hb2)
        obtain ⟨o1, p1, l1, rfl, rfl, -, -, -, -, -, -⟩ := hv1.form
        skip
        have V1 := Lib.hid hv1
        clear hv1 hb2
        have hS2 : (fun (W : World) => (W.cell? ⟨g, 4, none⟩ = some (.int .u64 f3) ∧ W.cell? ⟨g, 5, none⟩ = some (.slice a3 n3 n3) ∧ W.cell? ⟨g, 6, none⟩ = some (.int .u64 f4) ∧ W.cell? ⟨g, 7, none⟩ = some (.slice a4 n4 n4)) ∧ W.cell? ⟨k2, 0, none⟩ = some (.int .i64 A) ∧ W.cell? ⟨k2, 1, none⟩ = some (.int .i64 B) ∧ W.cell? ⟨k3, 0, none⟩ = some (.int .i64 C) ∧ W.cell? ⟨k3, 1, none⟩ = some (.int .i64 D)) w2 := ⟨⟨M2.out.eb.s.s.1, M2.out.eb.s.t.1, M2.out.eb.t.s.1, M2.out.eb.t.t.1⟩, M2.out.p.1, M2.out.q.1, M2.out.r.1, M2.out.u.1⟩
        go_wp2_with fail
        refine hK.out _ _ ⟨fun _ => hS2, ?_⟩
        clear hK K
        try simp only [Act.put, List.setIfInBounds_toArray, List.set_cons_zero, List.set_cons_succ, List.getElem_toArray, List.getElem_cons_succ, List.getElem_cons_zero]
        refine till_one (i := 14) rfl (by kernel_rfl) (fun K hK => ?_)
        go_simp
        refine Calls.mono (AB2.out _) ?_
        rintro e w3 ⟨rfl, hb3⟩
        have M3 := Lib.hid (M2.out.step hb3)
        have V1b := Lib.hid (V1.out.below hb3)
        clear hb3
        have hS3 : (fun (W : World) => (W.cell? ⟨g, 4, none⟩ = some (.int .u64 f3) ∧ W.cell? ⟨g, 5, none⟩ = some (.slice a3 n3 n3) ∧ W.cell? ⟨g, 6, none⟩ = some (.int .u64 f4) ∧ W.cell? ⟨g, 7, none⟩ = some (.slice a4 n4 n4)) ∧ W.cell? ⟨k2, 0, none⟩ = some (.int .i64 A) ∧ W.cell? ⟨k2, 1, none⟩ = some (.int .i64 B) ∧ W.cell? ⟨k3, 0, none⟩ = some (.int .i64 C) ∧ W.cell? ⟨k3, 1, none⟩ = some (.int .i64 D)) w3 := ⟨⟨M3.out.eb.s.s.1, M3.out.eb.s.t.1, M3.out.eb.t.s.1, M3.out.eb.t.t.1⟩, M3.out.p.1, M3.out.q.1, M3.out.r.1, M3.out.u.1⟩
        go_wp2_with fail
        refine hK.out _ _ ⟨fun _ => hS3, ?_⟩
        clear hK K
        try simp only [Act.put, List.setIfInBounds_toArray, List.set_cons_zero, List.set_cons_succ, List.getElem_toArray, List.getElem_cons_succ, List.getElem_cons_zero]
        refine till_one (i := 23) rfl (by kernel_rfl) (fun K hK => ?_)
        go_simp
        refine Calls.mono (MX4.out _ M3.out) ?_
        rintro e w4 ⟨q2, v2, rfl, hv2, hb4⟩
        have M4 := Lib.hid (M3.out.step hb4)
        obtain ⟨o2, p2, l2, rfl, rfl, -, -, -, -, -, -⟩ := hv2.form
        skip
        have V1c := Lib.hid (V1b.out.below hb4)
        have V2 := Lib.hid hv2
        clear hv2 hb4
        have hS4 : (fun (W : World) => (W.cell? ⟨g, 4, none⟩ = some (.int .u64 f3) ∧ W.cell? ⟨g, 5, none⟩ = some (.slice a3 n3 n3) ∧ W.cell? ⟨g, 6, none⟩ = some (.int .u64 f4) ∧ W.cell? ⟨g, 7, none⟩ = some (.slice a4 n4 n4)) ∧ W.cell? ⟨k2, 0, none⟩ = some (.int .i64 A) ∧ W.cell? ⟨k2, 1, none⟩ = some (.int .i64 B) ∧ W.cell? ⟨k3, 0, none⟩ = some (.int .i64 C) ∧ W.cell? ⟨k3, 1, none⟩ = some (.int .i64 D)) w4 := ⟨⟨M4.out.eb.s.s.1, M4.out.eb.s.t.1, M4.out.eb.t.s.1, M4.out.eb.t.t.1⟩, M4.out.p.1, M4.out.q.1, M4.out.r.1, M4.out.u.1⟩
        obtain ⟨⟨b1, b2⟩, ⟨b3, b4⟩, _⟩ := M4.out.eb.s
        obtain ⟨⟨b5, b6⟩, ⟨b7, b8⟩, _⟩ := M4.out.eb.t
        go_wp2_with fail
        refine hK.out _ _ ⟨fun _ => hS4, ?_⟩
        clear hK K
        try simp only [Act.put, List.setIfInBounds_toArray, List.set_cons_zero, List.set_cons_succ, List.getElem_toArray, List.getElem_cons_succ, List.getElem_cons_zero]
        refine till_one (i := 24) rfl (by kernel_rfl) (fun K hK => ?_)
        go_simp
        refine hK.out _ _ ⟨fun h => absurd h (by simp), ?_⟩
        clear hK K
        try simp only [Act.put, List.setIfInBounds_toArray, List.set_cons_zero, List.set_cons_succ, List.getElem_toArray, List.getElem_cons_succ, List.getElem_cons_zero]
        refine till_one (i := 25) rfl (by kernel_rfl) (fun K hK => ?_)
        go_simp
        refine hK.out _ _ ⟨fun h => absurd h (by simp), ?_⟩
        clear hK K
        try simp only [Act.put, List.setIfInBounds_toArray, List.set_cons_zero, List.set_cons_succ, List.getElem_toArray, List.getElem_cons_succ, List.getElem_cons_zero]
        refine till_one (i := 26) rfl (by kernel_rfl) (fun K hK => ?_)
        go_simp
        refine hK.out _ _ ⟨fun h => absurd h (by simp), ?_⟩
        clear hK K
        try simp only [Act.put, List.setIfInBounds_toArray, List.set_cons_zero, List.set_cons_succ, List.getElem_toArray, List.getElem_cons_succ, List.getElem_cons_zero]
        refine till_one (i := 27) rfl (by kernel_rfl) (fun K hK => ?_)
        go_simp
        refine hK.out _ _ ⟨fun h => absurd h (by simp), ?_⟩
        clear hK K
        try simp only [Act.put, List.setIfInBounds_toArray, List.set_cons_zero, List.set_cons_succ, List.getElem_toArray, List.getElem_cons_succ, List.getElem_cons_zero]
        refine till_one (i := 28) rfl (by kernel_rfl) (fun K hK => ?_)
        go_simp
        refine hK.out _ _ ⟨fun h => absurd h (by simp), ?_⟩
        clear hK K
        try simp only [Act.put, List.setIfInBounds_toArray, List.set_cons_zero, List.set_cons_succ, List.getElem_toArray, List.getElem_cons_succ, List.getElem_cons_zero]
        refine till_one (i := 29) rfl (by kernel_rfl) (fun K hK => ?_)
        go_simp
        refine hK.out _ _ ⟨fun h => absurd h (by simp), ?_⟩
        clear hK K
        try simp only [Act.put, List.setIfInBounds_toArray, List.set_cons_zero, List.set_cons_succ, List.getElem_toArray, List.getElem_cons_succ, List.getElem_cons_zero]
        refine till_done (by kernel_rfl) ?_
        go_wp2_with fail
        go_meet
        case rel => exact ⟨_, _, _, _, M4.out.put23 V1c.out V2.out⟩
      case rest =>
        obtain ⟨q3, v3, q4, v4, hlc⟩ := hcut
        have N0 := Lib.hid hlc
        obtain ⟨d1, d2⟩ := hlc.eb.m
        obtain ⟨d3, d4⟩ := hlc.r
        have hn3 := hlc.n3
        have hn3' : g ≠ k3 := fun e => hn3 e.symm
        clear hlc MX3 MX4 M0 M0D AB1 AB2
        go_wp2_with fail
        go_region
        all_goals go_wp2
        all_goals go_ret
        all_goals first | exact ⟨(below_set N0.out.below 8 (Nat.le_refl _) _).drew, Or.inr ⟨rfl, A, B, C, D, _, _, _, _, _, _, _, _, HL.out, hB, (N0.out.eb.putm _).step (below_drew _)⟩⟩
  · have hne : (((n1 : Int)) != n2) = true := by rw [bne_iff_ne]; omega
    clear hn1 hn2 x3 x6 x7 x8
    go_enter Tryz.func224, Tryz.ntmps224
    go_wp2
    go_region
    all_goals go_wp2
    all_goals go_ret
    all_goals exact ⟨(below_drew _).mono (Nat.le_of_lt hlt), Or.inl ⟨rfl, _, _, _, _, _, _, _, _, EH.out.step (below_drew _)⟩⟩
end Go.Proofs.YtkhebidmfjbhaaaGreatDoor
