/-
  A call's own boxes of integers and of rational numbers, and the integers known of, as lists.
  What over, fromWhole and negative return.
-/
import Derived.Test.YtkhebidmfjbhaaaGreatDoorZ17
import Derived.Deep.RegionHeld3
import Derived.Deep.Cut
namespace Go.Proofs.YtkhebidmfjbhaaaGreatDoor
open Go.RowKit

theorem mem0 {α : Type} {a : α} {l : List α} : a ∈ a :: l := List.mem_cons_self
theorem mem1 {α : Type} {a b0 : α} {l : List α} : a ∈ b0 :: a :: l := List.mem_cons_of_mem _ mem0
theorem mem2 {α : Type} {a b0 b1 : α} {l : List α} : a ∈ b0 :: b1 :: a :: l := List.mem_cons_of_mem _ mem1
theorem mem3 {α : Type} {a b0 b1 b2 : α} {l : List α} : a ∈ b0 :: b1 :: b2 :: a :: l := List.mem_cons_of_mem _ mem2
theorem mem4 {α : Type} {a b0 b1 b2 b3 : α} {l : List α} : a ∈ b0 :: b1 :: b2 :: b3 :: a :: l := List.mem_cons_of_mem _ mem3
theorem mem5 {α : Type} {a b0 b1 b2 b3 b4 : α} {l : List α} : a ∈ b0 :: b1 :: b2 :: b3 :: b4 :: a :: l := List.mem_cons_of_mem _ mem4
theorem mem6 {α : Type} {a b0 b1 b2 b3 b4 b5 : α} {l : List α} : a ∈ b0 :: b1 :: b2 :: b3 :: b4 :: b5 :: a :: l := List.mem_cons_of_mem _ mem5
theorem mem7 {α : Type} {a b0 b1 b2 b3 b4 b5 b6 : α} {l : List α} : a ∈ b0 :: b1 :: b2 :: b3 :: b4 :: b5 :: b6 :: a :: l := List.mem_cons_of_mem _ mem6
theorem mem8 {α : Type} {a b0 b1 b2 b3 b4 b5 b6 b7 : α} {l : List α} : a ∈ b0 :: b1 :: b2 :: b3 :: b4 :: b5 :: b6 :: b7 :: a :: l := List.mem_cons_of_mem _ mem7
theorem mem9 {α : Type} {a b0 b1 b2 b3 b4 b5 b6 b7 b8 : α} {l : List α} : a ∈ b0 :: b1 :: b2 :: b3 :: b4 :: b5 :: b6 :: b7 :: b8 :: a :: l := List.mem_cons_of_mem _ mem8
/-- The integer x in memory. -/
def IntV (W : World) (p v : Value) (b : Bool) (x : Int) : Prop := NatV W p v x.natAbs ∧ b = decide (x < 0)
theorem IntV.below {W W' : World} {p v : Value} {b : Bool} {x : Int} (h : IntV W p v b x) (hb : Below W.heap.size W W') : IntV W' p v b x := ⟨h.1.below hb, h.2⟩
/-- From w on lie the boxes R of two integers and Z of one; N lists integers in memory. -/
structure St (w W : World) (R : List (Nat × Value × Value × Bool × Value × Value × Bool)) (Z : List (Nat × Value × Value × Bool)) (N : List (Value × Value × Bool × Int)) : Prop where
  below : Below w.heap.size w W
  rats : ∀ e ∈ R, Rat6 W e.1 e.2.1 e.2.2.1 e.2.2.2.1 e.2.2.2.2.1 e.2.2.2.2.2.1 e.2.2.2.2.2.2
  nums : ∀ e ∈ Z, Num3 W e.1 e.2.1 e.2.2.1 e.2.2.2
  nats : ∀ e ∈ N, IntV W e.1 e.2.1 e.2.2.1 e.2.2.2
  own : ∀ e ∈ Z, w.heap.size ≤ e.1
  dist : Z.Pairwise (fun a b => a.1 ≠ b.1)
  apart : ∀ e ∈ R, ∀ d ∈ Z, e.1 ≠ d.1
  distR : R.Pairwise (fun a b => a.1 ≠ b.1)
  ownR : ∀ e ∈ R, w.heap.size ≤ e.1
theorem St.call {w W W' : World} {R : List (Nat × Value × Value × Bool × Value × Value × Bool)} {Z : List (Nat × Value × Value × Bool)} {N : List (Value × Value × Bool × Int)} (h : St w W R Z N) (hb : Below W.heap.size W W') : St w W' R Z N :=
  ⟨h.below.trans (hb.mono h.below.size), fun e he => (h.rats e he).below hb, fun e he => (h.nums e he).go hb, fun e he => (h.nats e he).below hb, h.own, h.dist, h.apart, h.distR, h.ownR⟩
theorem St.know {w W : World} {R : List (Nat × Value × Value × Bool × Value × Value × Bool)} {Z : List (Nat × Value × Value × Bool)} {N : List (Value × Value × Bool × Int)} {p v : Value} {b : Bool} {x : Int} (h : St w W R Z N) (hn : IntV W p v b x) : St w W R Z ((p, v, b, x) :: N) :=
  ⟨h.below, h.rats, h.nums, fun e he => by rcases List.mem_cons.mp he with rfl | he; exact hn; exact h.nats e he, h.own, h.dist, h.apart, h.distR, h.ownR⟩
theorem St.drew {w W : World} {R : List (Nat × Value × Value × Bool × Value × Value × Bool)} {Z : List (Nat × Value × Value × Bool)} {N : List (Value × Value × Bool × Int)} (h : St w W R Z N) : St w W.drew R Z N := h.call (below_drew _)
theorem St.alloc {w W : World} {R : List (Nat × Value × Value × Bool × Value × Value × Bool)} {Z : List (Nat × Value × Value × Bool)} {N : List (Value × Value × Bool × Int)} {p v : Value} {b : Bool} {t : TypeId} {k : Nat} (h : St w W R Z N) (hk : k = W.heap.size) :
    St w (W.alloc (.cells #[p, v, .bool b] t)) R ((k, p, v, b) :: Z) N := by
  subst hk
  have h' := h.call (alloc_below W (.cells #[p, v, .bool b] t))
  refine ⟨h'.below, h'.rats, ?_, h'.nats, ?_, ?_, ?_, h.distR, h.ownR⟩
  · intro e he
    rcases List.mem_cons.mp he with rfl | he
    · exact Num3.new _ _ _ _ _ _ rfl
    · exact h'.nums e he
  · intro e he
    rcases List.mem_cons.mp he with rfl | he
    · exact h.below.size
    · exact h.own e he
  · refine List.pairwise_cons.mpr ⟨fun e he => ?_, h.dist⟩
    have := (h.nums e he).lt
    show W.heap.size ≠ e.1
    omega
  · intro e he d hd
    have h1 := (h.rats e he).lt
    rcases List.mem_cons.mp hd with rfl | hd
    · show e.1 ≠ W.heap.size
      omega
    · exact h.apart e he d hd
theorem St.allocR {w W : World} {R : List (Nat × Value × Value × Bool × Value × Value × Bool)} {Z : List (Nat × Value × Value × Bool)} {N : List (Value × Value × Bool × Int)} {p v q u : Value} {b c : Bool} {t : TypeId} {k : Nat} (h : St w W R Z N) (hk : k = W.heap.size) :
    St w (W.alloc (.cells #[p, v, .bool b, q, u, .bool c] t)) ((k, p, v, b, q, u, c) :: R) Z N := by
  subst hk
  have h' := h.call (alloc_below W (.cells #[p, v, .bool b, q, u, .bool c] t))
  refine ⟨h'.below, ?_, h'.nums, h'.nats, h.own, h.dist, ?_, ?_, ?_⟩
  · intro e he
    rcases List.mem_cons.mp he with rfl | he
    · exact Rat6.new _ _ _ _ _ _ _ _ _ rfl
    · exact h'.rats e he
  · intro e he d hd
    have h1 := (h.nums d hd).lt
    rcases List.mem_cons.mp he with rfl | he
    · show W.heap.size ≠ d.1
      omega
    · exact h.apart e he d hd
  · refine List.pairwise_cons.mpr ⟨fun e he => ?_, h.distR⟩
    have := (h.rats e he).lt
    show W.heap.size ≠ e.1
    omega
  · intro e he
    rcases List.mem_cons.mp he with rfl | he
    · exact h.below.size
    · exact h.ownR e he
/-- The first of the boxes of one integer is written over. -/
theorem St.over {w W : World} {R : List (Nat × Value × Value × Bool × Value × Value × Bool)} {Z : List (Nat × Value × Value × Bool)} {N : List (Value × Value × Bool × Int)} {k : Nat} {p v p' v' : Value} {b b' : Bool} {y : Int} (h : St w W R ((k, p, v, b) :: Z) N) (hn : NatV W p v y) :
    St w (((W.setCell ⟨k, 0, none⟩ p').setCell ⟨k, 1, none⟩ v').setCell ⟨k, 2, none⟩ (.bool b')) R ((k, p', v', b') :: Z) N := by
  have hk := h.nums _ List.mem_cons_self
  refine ⟨wr3_below h.below (h.own _ List.mem_cons_self), fun e he => (h.rats e he).far3 (h.apart e he _ List.mem_cons_self), ?_, fun e he => ⟨(h.nats e he).1.through hk hn, (h.nats e he).2⟩, ?_, ?_, ?_, h.distR, h.ownR⟩
  · intro e he
    rcases List.mem_cons.mp he with rfl | he
    · exact hk.put _ _ _
    · exact (h.nums e (List.mem_cons_of_mem _ he)).far (((List.pairwise_cons.mp h.dist).1 e he).symm)
  · intro e he
    rcases List.mem_cons.mp he with rfl | he
    · exact h.own (k, p, v, b) List.mem_cons_self
    · exact h.own e (List.mem_cons_of_mem _ he)
  · exact List.pairwise_cons.mpr ⟨fun e he => (List.pairwise_cons.mp h.dist).1 e he, (List.pairwise_cons.mp h.dist).2⟩
  · intro e he d hd
    rcases List.mem_cons.mp hd with rfl | hd
    · exact h.apart e he (k, p, v, b) List.mem_cons_self
    · exact h.apart e he d (List.mem_cons_of_mem _ hd)
theorem St.swap {w W : World} {R : List (Nat × Value × Value × Bool × Value × Value × Bool)} {Z : List (Nat × Value × Value × Bool)} {N : List (Value × Value × Bool × Int)} {a b : Nat × Value × Value × Bool} (h : St w W R (a :: b :: Z) N) : St w W R (b :: a :: Z) N := by
  have key : ∀ e, e ∈ b :: a :: Z ↔ e ∈ a :: b :: Z := fun e => by simp only [List.mem_cons]; constructor <;> rintro (h | h | h) <;> simp [h]
  have hd := h.dist
  rw [List.pairwise_cons, List.pairwise_cons] at hd
  refine ⟨h.below, h.rats, fun e he => h.nums e ((key e).mp he), h.nats, fun e he => h.own e ((key e).mp he), ?_, fun e he d hx => h.apart e he d ((key d).mp hx), h.distR, h.ownR⟩
  rw [List.pairwise_cons, List.pairwise_cons]
  refine ⟨?_, fun e he => hd.1 e (List.mem_cons_of_mem _ he), hd.2.2⟩
  intro e he
  rcases List.mem_cons.mp he with rfl | he
  · exact (hd.1 _ List.mem_cons_self).symm
  · exact hd.2.1 e he
/-- A new box, the last one, is written. -/
theorem St.put0 {w W : World} {R : List (Nat × Value × Value × Bool × Value × Value × Bool)} {Z : List (Nat × Value × Value × Bool)} {N : List (Value × Value × Bool × Int)} {k : Nat} {p' v' : Value} {b' : Bool} (h : St w W R ((k, .int .u64 0, .slice none 0 0, false) :: Z) N) :
    St w (((W.setCell ⟨k, 0, none⟩ p').setCell ⟨k, 1, none⟩ v').setCell ⟨k, 2, none⟩ (.bool b')) R ((k, p', v', b') :: Z) N := h.over (NatV.zero _)
/-- A new box, the last but one, is written. -/
theorem St.put1 {w W : World} {R : List (Nat × Value × Value × Bool × Value × Value × Bool)} {Z : List (Nat × Value × Value × Bool)} {N : List (Value × Value × Bool × Int)} {a : Nat × Value × Value × Bool} {k : Nat} {p' v' : Value} {b' : Bool} (h : St w W R (a :: (k, .int .u64 0, .slice none 0 0, false) :: Z) N) :
    St w (((W.setCell ⟨k, 0, none⟩ p').setCell ⟨k, 1, none⟩ v').setCell ⟨k, 2, none⟩ (.bool b')) R (a :: (k, p', v', b') :: Z) N := h.swap.put0.swap
/-- The result's box of two integers is written. -/
theorem St.putR {w W : World} {R : List (Nat × Value × Value × Bool × Value × Value × Bool)} {Z : List (Nat × Value × Value × Bool)} {N : List (Value × Value × Bool × Int)} {k : Nat} {p v q u : Value} {b c : Bool} (h : St w W ((k, .int .u64 0, .slice none 0 0, false, .int .u64 0, .slice none 0 0, false) :: R) Z N) :
    St w ((((((W.setCell ⟨k, 0, none⟩ p).setCell ⟨k, 1, none⟩ v).setCell ⟨k, 2, none⟩ (.bool b)).setCell ⟨k, 3, none⟩ q).setCell ⟨k, 4, none⟩ u).setCell ⟨k, 5, none⟩ (.bool c)) ((k, p, v, b, q, u, c) :: R) Z N := by
  have hk := h.rats _ List.mem_cons_self
  have hd := List.pairwise_cons.mp h.distR
  refine ⟨wr6_below h.below (h.ownR _ List.mem_cons_self), ?_, ?_, fun e he => ⟨(h.nats e he).1.through6 hk (NatV.zero _) (NatV.zero _), (h.nats e he).2⟩, h.own, h.dist, ?_, ?_, ?_⟩
  · intro e he
    rcases List.mem_cons.mp he with rfl | he
    · exact hk.put
    · exact (h.rats e (List.mem_cons_of_mem _ he)).far (hd.1 e he).symm
  · intro e he
    exact (h.nums e he).far6 (h.apart _ List.mem_cons_self e he).symm
  · intro e he d hx
    rcases List.mem_cons.mp he with rfl | he
    · exact h.apart (k, .int .u64 0, .slice none 0 0, false, .int .u64 0, .slice none 0 0, false) List.mem_cons_self d hx
    · exact h.apart e (List.mem_cons_of_mem _ he) d hx
  · exact List.pairwise_cons.mpr ⟨fun e he => hd.1 e he, hd.2⟩
  · intro e he
    rcases List.mem_cons.mp he with rfl | he
    · exact h.ownR (k, .int .u64 0, .slice none 0 0, false, .int .u64 0, .slice none 0 0, false) List.mem_cons_self
    · exact h.ownR e (List.mem_cons_of_mem _ he)
theorem St.zero {w : World} : St w w [] [] [] :=
  ⟨Below.refl _ _, fun _ h => (nomatch h), fun _ h => (nomatch h), fun _ h => (nomatch h), fun _ h => (nomatch h), List.Pairwise.nil, fun _ h => (nomatch h), List.Pairwise.nil, fun _ h => (nomatch h)⟩
theorem St.bare {w W : World} {R : List (Nat × Value × Value × Bool × Value × Value × Bool)} {Z : List (Nat × Value × Value × Bool)} {N : List (Value × Value × Bool × Int)} (h : St w W R Z N) : St w W R Z [] :=
  ⟨h.below, h.rats, h.nums, fun _ h => (nomatch h), h.own, h.dist, h.apart, h.distR, h.ownR⟩
theorem St.pick {w W : World} {R : List (Nat × Value × Value × Bool × Value × Value × Bool)} {Z : List (Nat × Value × Value × Bool)} {N N' : List (Value × Value × Bool × Int)} {e : Value × Value × Bool × Int} (h : St w W R Z N') (H : St w W R Z N) (m : e ∈ N) : St w W R Z (e :: N') :=
  ⟨h.below, h.rats, h.nums, fun d hd => by rcases List.mem_cons.mp hd with rfl | hd; exact H.nats _ m; exact h.nats d hd, h.own, h.dist, h.apart, h.distR, h.ownR⟩
theorem St.keep {w W : World} {R : List (Nat × Value × Value × Bool × Value × Value × Bool)} {Z : List (Nat × Value × Value × Bool)} {N : List (Value × Value × Bool × Int)} {A : Prop} (h : St w W R Z N) (k : St w W R Z N → A) : A := k h
theorem St.int {w W : World} {R : List (Nat × Value × Value × Bool × Value × Value × Bool)} {Z : List (Nat × Value × Value × Bool)} {N : List (Value × Value × Bool × Int)} {p v : Value} {b : Bool} {x : Int} (h : St w W R Z N) (m : (p, v, b, x) ∈ N) : IntV W p v b x := h.nats _ m
theorem St.arm {P : Program} {f : Nat} {args : Array Value} {w W : World} {R : List (Nat × Value × Value × Bool × Value × Value × Bool)} {Z : List (Nat × Value × Value × Bool)} {N : List (Value × Value × Bool × Int)} {Q Q' : Ending → World → Prop} (h : St w W R Z N) (hc : St w W R Z N → Calls P f args W Q) (hk : ∀ e W', Q e W' ∧ St w W R Z N → Q' e W') : Calls P f args W Q' :=
  (hc h).mono (fun e W' q => hk e W' ⟨q, h⟩)
theorem St.rat {w W : World} {R : List (Nat × Value × Value × Bool × Value × Value × Bool)} {Z : List (Nat × Value × Value × Bool)} {N : List (Value × Value × Bool × Int)} {k : Nat} {p v q u : Value} {b c : Bool} (h : St w W R Z N) (m : (k, p, v, b, q, u, c) ∈ R) :
    W.cell? ⟨k, 0, none⟩ = some p ∧ W.cell? ⟨k, 1, none⟩ = some v ∧ W.cell? ⟨k, 2, none⟩ = some (.bool b) ∧ W.cell? ⟨k, 3, none⟩ = some q ∧ W.cell? ⟨k, 4, none⟩ = some u ∧ W.cell? ⟨k, 5, none⟩ = some (.bool c) :=
  have e := h.rats _ m
  ⟨e.c0, e.c1, e.c2, e.c3, e.c4, e.c5⟩
theorem St.num {w W : World} {R : List (Nat × Value × Value × Bool × Value × Value × Bool)} {Z : List (Nat × Value × Value × Bool)} {N : List (Value × Value × Bool × Int)} {k : Nat} {p v : Value} {b : Bool} (h : St w W R Z N) (m : (k, p, v, b) ∈ Z) :
    W.cell? ⟨k, 0, none⟩ = some p ∧ W.cell? ⟨k, 1, none⟩ = some v ∧ W.cell? ⟨k, 2, none⟩ = some (.bool b) :=
  have e := h.nums _ m
  ⟨e.c0, e.c1, e.c2⟩
/-- A new box, the last one, the last but one. -/
theorem St.fresh1 {w W : World} {R : List (Nat × Value × Value × Bool × Value × Value × Bool)} {Z : List (Nat × Value × Value × Bool)} {N : List (Value × Value × Bool × Int)} {k : Nat} (h : St w W R ((k, .int .u64 0, .slice none 0 0, false) :: Z) N) : (W.cell? ⟨k, 0, none⟩ = some (.int .u64 0) ∧ W.cell? ⟨k, 1, none⟩ = some (.slice none 0 0) ∧ W.cell? ⟨k, 2, none⟩ = some (.bool false) ∧ W.frozen? ⟨k, 0, none⟩ = false ∧ W.frozen? ⟨k, 1, none⟩ = false ∧ W.frozen? ⟨k, 2, none⟩ = false) ∧ k ≠ W.heap.size ∧ W.heap.size ≠ k ∧ k < W.heap.size :=
  have e := h.nums _ mem0
  ⟨⟨e.c0, e.c1, e.c2, e.f0, e.f1, e.f2⟩, Nat.ne_of_lt e.lt, Nat.ne_of_gt e.lt, e.lt⟩
theorem St.fresh2 {w W : World} {R : List (Nat × Value × Value × Bool × Value × Value × Bool)} {Z : List (Nat × Value × Value × Bool)} {N : List (Value × Value × Bool × Int)} {k' : Nat} {p v : Value} {b : Bool} {k : Nat} (h : St w W R ((k', p, v, b) :: (k, .int .u64 0, .slice none 0 0, false) :: Z) N) : (W.cell? ⟨k, 0, none⟩ = some (.int .u64 0) ∧ W.cell? ⟨k, 1, none⟩ = some (.slice none 0 0) ∧ W.cell? ⟨k, 2, none⟩ = some (.bool false) ∧ W.frozen? ⟨k, 0, none⟩ = false ∧ W.frozen? ⟨k, 1, none⟩ = false ∧ W.frozen? ⟨k, 2, none⟩ = false) ∧ (k ≠ W.heap.size ∧ W.heap.size ≠ k ∧ k < W.heap.size) ∧ k ≠ k' ∧ k' ≠ k :=
  have e := h.nums _ mem1
  have d := (List.pairwise_cons.mp h.dist).1 _ mem0
  ⟨⟨e.c0, e.c1, e.c2, e.f0, e.f1, e.f2⟩, ⟨Nat.ne_of_lt e.lt, Nat.ne_of_gt e.lt, e.lt⟩, d.symm, d⟩
/-- The result, an integer, is written into its box. -/
theorem St.giveZ {w W : World} {R : List (Nat × Value × Value × Bool × Value × Value × Bool)} {Z : List (Nat × Value × Value × Bool)} {N : List (Value × Value × Bool × Int)} {k : Nat} {p v : Value} {b : Bool} {z : Int} (h : St w W R Z N) (hk : (k, .int .u64 0, .slice none 0 0, false) ∈ Z) (hn : (p, v, b, z) ∈ N) :
    GivesZ z w (.returned (.agg #[p, v, .bool b])) (((W.setCell ⟨k, 0, none⟩ p).setCell ⟨k, 1, none⟩ v).setCell ⟨k, 2, none⟩ (.bool b)) :=
  ⟨p, v, by rw [show b = decide (z < 0) from (h.nats _ hn).2], (h.nats _ hn).1.through (h.nums _ hk) (NatV.zero _), wr3_below h.below (h.own _ hk)⟩
/-- The result, two integers, is written into its box. -/
theorem St.giveR {w W : World} {R : List (Nat × Value × Value × Bool × Value × Value × Bool)} {Z : List (Nat × Value × Value × Bool)} {N : List (Value × Value × Bool × Int)} {k : Nat} {p v q u : Value} {b c : Bool} {n d : Int} (h : St w W R Z N) (hk : (k, .int .u64 0, .slice none 0 0, false, .int .u64 0, .slice none 0 0, false) ∈ R) (hw : w.heap.size ≤ k) (hn : (p, v, b, n) ∈ N) (hd : (q, u, c, d) ∈ N) :
    GivesR n d w (.returned (.agg #[p, v, .bool b, q, u, .bool c])) ((((((W.setCell ⟨k, 0, none⟩ p).setCell ⟨k, 1, none⟩ v).setCell ⟨k, 2, none⟩ (.bool b)).setCell ⟨k, 3, none⟩ q).setCell ⟨k, 4, none⟩ u).setCell ⟨k, 5, none⟩ (.bool c)) :=
  Go.Proofs.YtkhebidmfjbhaaaGreatDoor.giveR h.below hw (h.rats _ hk) ⟨(h.nats _ hn).1, (h.nats _ hn).2, (h.nats _ hd).1, (h.nats _ hd).2⟩

/-- What a function of one integer, of two, answers. -/
def Op1 (f : Nat) (x z : Int) : Prop := ∀ (p v : Value) (b : Bool) (W : World), IntV W p v b x → Calls Tryz.prog f #[.agg #[p, v, .bool b]] W (GivesZ z W)
def Op2 (f : Nat) (x y z : Int) : Prop := ∀ (p v q u : Value) (b c : Bool) (W : World), IntV W p v b x → IntV W q u c y → Calls Tryz.prog f #[.agg #[p, v, .bool b], .agg #[q, u, .bool c]] W (GivesZ z W)
theorem Op1.run {f : Nat} {x z : Int} {p v : Value} {b : Bool} {W : World} (h : Op1 f x z) (hx : IntV W p v b x) : Calls Tryz.prog f #[.agg #[p, v, .bool b]] W (GivesZ z W) := h p v b W hx
theorem Op2.run {f : Nat} {x y z : Int} {p v q u : Value} {b c : Bool} {W : World} (h : Op2 f x y z) (hx : IntV W p v b x) (hy : IntV W q u c y) : Calls Tryz.prog f #[.agg #[p, v, .bool b], .agg #[q, u, .bool c]] W (GivesZ z W) := h p v q u b c W hx hy
theorem Op1.neg {x z : Int} (h : -x = z) : Op1 159 x z := fun p v b W hx => h ▸ Negative_any p v x b W hx.1 hx.2
theorem Op2.plus {x y z : Int} (h : x + y = z) (hx9 : nl x.natAbs ≤ 50000) (hy9 : nl y.natAbs ≤ 50000) : Op2 148 x y z := fun p v q u b c W hx hy => h ▸ Plus_any p v q u b c x y W hx.1 hy.1 hx.2 hy.2 hx9 hy9
theorem Op2.minus {x y z : Int} (h : x - y = z) (hx9 : nl x.natAbs ≤ 50000) (hy9 : nl y.natAbs ≤ 50000) : Op2 165 x y z := fun p v q u b c W hx hy => h ▸ Minus_any p v q u b c x y W hx.1 hy.1 hx.2 hy.2 hx9 hy9
theorem Op2.times {x y z : Int} (h : x * y = z) (hx9 : nl x.natAbs ≤ 40000) (hy9 : nl y.natAbs ≤ 40000) : Op2 134 x y z := fun p v q u b c W hx hy => h ▸ Times_any p v q u b c x y W hx.1 hy.1 hx.2 hy.2 hx9 hy9
theorem Op2.gcd {x y z : Int} (h : (Int.gcd x y : Int) = z) (hx9 : nl x.natAbs ≤ 20000) (hy9 : nl y.natAbs ≤ 20000) : Op2 141 x y z := fun p v q u b c W hx hy => h ▸ Gcd_any p v q u b c x y W hx.1 hy.1 hx9 hy9
theorem cmp_run {x y : Int} {p v q u : Value} {b c : Bool} {W : World} (hx : IntV W p v b x) (hy : IntV W q u c y) : Calls Tryz.prog 145 #[.agg #[p, v, .bool b], .agg #[q, u, .bool c]] W (GivesI (cmp3 x y) W) := Compare_any p v q u b c x y W hx.1 hy.1 hx.2 hy.2
theorem sign_run {x : Int} {p v : Value} {b : Bool} {W : World} (hx : IntV W p v b x) : Calls Tryz.prog 119 #[.agg #[p, v, .bool b]] W (GivesI (sg x) W) := SignN_any p v x b W hx.1 hx.2
/-- What DivMod answers. -/
def Op22 (f : Nat) (x y z r : Int) : Prop := ∀ (p v q u : Value) (b c : Bool) (W : World), IntV W p v b x → IntV W q u c y → Calls Tryz.prog f #[.agg #[p, v, .bool b], .agg #[q, u, .bool c]] W (GivesZZ z r W)
theorem Op22.dm {x y z r : Int} (h : x.fdiv y = z) (h' : x.fmod y = r) (h0 : y ≠ 0) (hx9 : nl x.natAbs ≤ 40000) (hy9 : nl y.natAbs ≤ 40000) : Op22 152 x y z r := fun p v q u b c W hx hy => h ▸ h' ▸ DivModN_any p v q u b c x y W hx.1 hy.1 hx.2 hy.2 h0 hx9 hy9
end Go.Proofs.YtkhebidmfjbhaaaGreatDoor
namespace Go.Proofs.YtkhebidmfjbhaaaGreatDoor
open Go.RowKit

set_option maxHeartbeats 4000000 in
set_option maxRecDepth 100000 in
theorem over_any (px vx : Value) (ix : Bool) (py vy : Value) (iy : Bool) (x y : Int) (w : World) (hx : IntV w px vx ix x) (hy : IntV w py vy iy y) (h0 : y ≠ 0) (hx9 : nl x.natAbs ≤ 40000) (hy9 : nl y.natAbs ≤ 40000) :
    Calls Tryz.prog 147 #[.agg #[px, vx, .bool ix], .agg #[py, vy, .bool iy]] w (GivesZ (x.fdiv y) w) := by
  obtain ⟨z, hz⟩ : ∃ z, x.fdiv y = z := ⟨_, rfl⟩
  obtain ⟨r, hr⟩ : ∃ r, x.fmod y = r := ⟨_, rfl⟩
  have DM := Op22.dm hz hr h0 hx9 hy9
  rw [hz]
  clear hz hr
  obtain ⟨xt, xa, xn, rfl, rfl, -, -, -, -, -, -⟩ := hx.1.form
  obtain ⟨xs, hxs⟩ : ∃ s, s = ix := ⟨_, rfl⟩; subst hxs
  obtain ⟨yt, ya, yn, rfl, rfl, -, -, -, -, -, -⟩ := hy.1.form
  obtain ⟨ys, hys⟩ : ∃ s, s = iy := ⟨_, rfl⟩; subst hys
  obtain ⟨W0, hW0⟩ : ∃ W0, W0 = (((w.alloc (.cells #[.int .u64 xt, .slice xa xn xn, .bool xs] 74)).alloc (.cells #[.int .u64 yt, .slice ya yn yn, .bool ys] 74)).alloc (.cells #[.int .u64 0, .slice none 0 0, .bool false] 74)) := ⟨_, rfl⟩
  have ST : St w W0 [] [(w.heap.size + 1 + 1, .int .u64 0, .slice none 0 0, false), (w.heap.size + 1, .int .u64 yt, .slice ya yn yn, ys), (w.heap.size, .int .u64 xt, .slice xa xn xn, xs)] [(.int .u64 yt, .slice ya yn yn, ys, y), (.int .u64 xt, .slice xa xn xn, xs, x)] := by
    rw [hW0]
    exact (((((St.zero).know hx).know hy).alloc (k := w.heap.size) (t := 74) (by first | rfl | (simp; done) | (simp; omega))).alloc (k := w.heap.size + 1) (t := 74) (by first | rfl | (simp; done) | (simp; omega))).alloc (k := w.heap.size + 1 + 1) (t := 74) (by first | rfl | (simp; done) | (simp; omega))
  replace ST := Lib.hid ST
  clear hx hy h0 hx9 hy9
  go_enter Tryz.func147, Tryz.ntmps147
  go_wp2_with fail
  rw [← hW0]
  clear hW0
  obtain ⟨c0, c1, c2⟩ := ST.out.num (k := w.heap.size) (by with_reducible ((repeat ((fail_if_success exact mem0); apply List.mem_cons_of_mem)); exact mem0))
  obtain ⟨c3, c4, c5⟩ := ST.out.num (k := w.heap.size + 1) (by with_reducible ((repeat ((fail_if_success exact mem0); apply List.mem_cons_of_mem)); exact mem0))
  obtain ⟨c6, c7, c8⟩ := ST.out.num (k := w.heap.size + 1 + 1) (by with_reducible ((repeat ((fail_if_success exact mem0); apply List.mem_cons_of_mem)); exact mem0))
  go_wp2_with fail
  refine (DM _ _ _ _ _ _ _ (ST.out.int (by with_reducible ((repeat ((fail_if_success exact mem0); apply List.mem_cons_of_mem)); exact mem0))) (ST.out.int (by with_reducible ((repeat ((fail_if_success exact mem0); apply List.mem_cons_of_mem)); exact mem0)))).mono ?_
  rintro e w1 ⟨p1, v1, p2, v2, rfl, hv1, hv2, hb1⟩
  obtain ⟨r1s, hs1⟩ : ∃ s, s = decide (z < 0) := ⟨_, rfl⟩
  obtain ⟨r2s, hs2⟩ : ∃ s, s = decide (r < 0) := ⟨_, rfl⟩
  rw [← hs1, ← hs2]
  have h1 := And.intro hv1 hs1
  have h2 := And.intro hv2 hs2
  obtain ⟨r1t, r1a, r1n, rfl, rfl, -, -, -, -, -, -⟩ := hv1.form
  obtain ⟨r2t, r2a, r2n, rfl, rfl, -, -, -, -, -, -⟩ := hv2.form
  replace ST := Lib.hid (((ST.out.call hb1).know h2).know h1)
  clear c0 c1 c2 c3 c4 c5 c6 c7 c8 h1 h2 hv1 hv2 hb1 hs1 hs2
  obtain ⟨c6, c7, c8⟩ := ST.out.num (k := w.heap.size + 1 + 1) (by with_reducible ((repeat ((fail_if_success exact mem0); apply List.mem_cons_of_mem)); exact mem0))
  go_upto_region 2 with fail
  obtain ⟨W2, hW2⟩ : ∃ W2, W2 = (w1.alloc (.cells #[.int .u64 r1t, .slice r1a r1n r1n, .bool r1s] 74)).alloc (.cells #[.int .u64 r2t, .slice r2a r2n r2n, .bool r2s] 74) := ⟨_, rfl⟩
  rw [← hW2]
  replace ST := (ST.out.alloc (p := .int .u64 r1t) (v := .slice r1a r1n r1n) (b := r1s) (t := 74) (k := w1.heap.size) (by first | rfl | (simp; done) | (simp; omega))).alloc (p := .int .u64 r2t) (v := .slice r2a r2n r2n) (b := r2s) (t := 74) (k := w1.heap.size + 1) (by first | rfl | (simp; done) | (simp; omega))
  rw [← hW2] at ST
  clear hW2 c6 c7 c8
  replace ST := Lib.hid ST
  obtain ⟨c0, c1, c2⟩ := ST.out.num (k := w1.heap.size) (by with_reducible ((repeat ((fail_if_success exact mem0); apply List.mem_cons_of_mem)); exact mem0))
  obtain ⟨c6, c7, c8, c9, c10, c11⟩ := ST.out.nums (w.heap.size + 1 + 1, .int .u64 0, .slice none 0 0, false) (by with_reducible ((repeat ((fail_if_success exact mem0); apply List.mem_cons_of_mem)); exact mem0))
  go_wp2
  exact bodyPost_ret (v := .agg #[.int .u64 r1t, .slice r1a r1n r1n, .bool r1s]) (by simp [results, Tryz.results147, go_sem, c6, c7, c8]) rfl (ST.out.giveZ (k := w.heap.size + 1 + 1) (by with_reducible ((repeat ((fail_if_success exact mem0); apply List.mem_cons_of_mem)); exact mem0)) (by with_reducible ((repeat ((fail_if_success exact mem0); apply List.mem_cons_of_mem)); exact mem0)))
theorem Op2.over {x y z : Int} (h : x.fdiv y = z) (h0 : y ≠ 0) (hx9 : nl x.natAbs ≤ 40000) (hy9 : nl y.natAbs ≤ 40000) : Op2 147 x y z := fun p v q u b c W hx hy => h ▸ over_any p v b q u c x y W hx hy h0 hx9 hy9
theorem nl_gcd {x y : Int} {n : Nat} (h : nl y.natAbs ≤ n) (hy : y ≠ 0) : nl (Int.gcd x y : Int) ≤ n :=
  Nat.le_trans (nl_mono (by omega) (by have h1 := Int.gcd_dvd_right x y; have h2 := Int.natAbs_dvd_natAbs.mpr h1; have h3 := Nat.le_of_dvd (by omega) h2; rw [Int.natAbs_natCast] at h3; omega)) h

set_option maxHeartbeats 4000000 in
set_option maxRecDepth 100000 in
theorem fromWhole_any (px vx : Value) (ix : Bool) (x : Int) (w : World) (hx : IntV w px vx ix x)  :
    Calls Tryz.prog 118 #[.agg #[px, vx, .bool ix]] w (GivesR x 1 w) := by
  obtain ⟨xt, xa, xn, rfl, rfl, -, -, -, -, -, -⟩ := hx.1.form
  obtain ⟨xs, hxs⟩ : ∃ s, s = ix := ⟨_, rfl⟩; subst hxs
  obtain ⟨W0, hW0⟩ : ∃ W0, W0 = ((w.alloc (.cells #[.int .u64 xt, .slice xa xn xn, .bool xs] 74)).alloc (.cells #[.int .u64 0, .slice none 0 0, .bool false, .int .u64 0, .slice none 0 0, .bool false] 76)) := ⟨_, rfl⟩
  have ST : St w W0 [(w.heap.size + 1, .int .u64 0, .slice none 0 0, false, .int .u64 0, .slice none 0 0, false)] [(w.heap.size, .int .u64 xt, .slice xa xn xn, xs)] [(.int .u64 xt, .slice xa xn xn, xs, x)] := by
    rw [hW0]
    exact (((St.zero).know hx).alloc (k := w.heap.size) (t := 74) (by first | rfl | (simp; done) | (simp; omega))).allocR (k := w.heap.size + 1) (t := 76) (by first | rfl | (simp; done) | (simp; omega))
  replace ST := Lib.hid ST
  clear hx
  go_enter Tryz.func118, Tryz.ntmps118
  go_wp2_with fail
  rw [← hW0]
  clear hW0
  (first | clear q0 q1 q2 q3 q4 q5 q6 q7 q8 q9 q10 q11 | skip); obtain ⟨q0, q1, q2, q3, q4, q5, q6, q7, q8, q9, q10, q11⟩ := ST.out.rats (w.heap.size + 1, .int .u64 0, .slice none 0 0, false, .int .u64 0, .slice none 0 0, false) (by with_reducible ((repeat ((fail_if_success exact mem0); apply List.mem_cons_of_mem)); exact mem0)); dsimp only at q0 q1 q2 q3 q4 q5 q6 q7 q8 q9 q10 q11
  go_region_held3 (fun W => (W.cell? ⟨w.heap.size, 0, none⟩ = some (.int .u64 xt) ∧ W.cell? ⟨w.heap.size, 1, none⟩ = some (.slice xa xn xn) ∧ W.cell? ⟨w.heap.size, 2, none⟩ = some (.bool xs))) ((exact St.num (w := w) (by ((with_reducible iterate 4 try first | apply St.drew | apply St.alloc | apply St.allocR | apply St.putR); ((with_reducible exact ST.out); all_goals (first | rfl | (simp; done) | (simp; omega))))) (by with_reducible ((repeat ((fail_if_success exact mem0); apply List.mem_cons_of_mem)); exact mem0)))) (first | (go_at_call 139; refine St.arm (w := w) (by ((with_reducible iterate 4 try first | apply St.drew | apply St.alloc | apply St.allocR | apply St.putR); ((with_reducible exact ST.out); all_goals (first | rfl | (simp; done) | (simp; omega))))) (by intro H; with_reducible exact OfZ_any 1 _ (by decide) (by decide)) ?_; rintro e w1 ⟨⟨p1, v1, rfl, hv1, hb1⟩, H⟩; obtain ⟨r1s, hs1⟩ : ∃ sgn, sgn = decide ((1 : Int) < 0) := ⟨_, rfl⟩; rw [← hs1]; have hi := And.intro hv1 hs1; obtain ⟨r1t, r1a, r1n, rfl, rfl, -, -, -, -, -, -⟩ := hv1.form; replace ST := Lib.hid ((H.call hb1).know hi); clear hi H hv1 hb1 hs1; (first | clear q0 q1 q2 q3 q4 q5 q6 q7 q8 q9 q10 q11 | skip); obtain ⟨q0, q1, q2, q3, q4, q5, q6, q7, q8, q9, q10, q11⟩ := ST.out.rats (w.heap.size + 1, .int .u64 0, .slice none 0 0, false, .int .u64 0, .slice none 0 0, false) (by with_reducible ((repeat ((fail_if_success exact mem0); apply List.mem_cons_of_mem)); exact mem0)); dsimp only at q0 q1 q2 q3 q4 q5 q6 q7 q8 q9 q10 q11) | fail)
  all_goals
    go_wp2
    exact bodyPost_ret (v := .agg #[.int .u64 xt, .slice xa xn xn, .bool xs, .int .u64 r1t, .slice r1a r1n r1n, .bool r1s]) (by simp [results, Tryz.results118, go_sem, q0, q1, q2, q3, q4, q5]) rfl (ST.out.giveR (k := w.heap.size + 1) (by with_reducible ((repeat ((fail_if_success exact mem0); apply List.mem_cons_of_mem)); exact mem0)) (by omega) (by with_reducible ((repeat ((fail_if_success exact mem0); apply List.mem_cons_of_mem)); exact mem0)) (by with_reducible ((repeat ((fail_if_success exact mem0); apply List.mem_cons_of_mem)); exact mem0)))
set_option maxHeartbeats 4000000 in
set_option maxRecDepth 100000 in
theorem rnegative_any (px vx : Value) (ix : Bool) (py vy : Value) (iy : Bool) (x y : Int) (w : World) (hx : IntV w px vx ix x) (hy : IntV w py vy iy y)  :
    Calls Tryz.prog 126 #[.agg #[px, vx, .bool ix, py, vy, .bool iy]] w (GivesR (-x) y w) := by
  obtain ⟨z, hz⟩ : ∃ z, -x = z := ⟨_, rfl⟩
  have NG := Op1.neg hz
  rw [hz]
  clear hz
  obtain ⟨xt, xa, xn, rfl, rfl, -, -, -, -, -, -⟩ := hx.1.form
  obtain ⟨xs, hxs⟩ : ∃ s, s = ix := ⟨_, rfl⟩; subst hxs
  obtain ⟨yt, ya, yn, rfl, rfl, -, -, -, -, -, -⟩ := hy.1.form
  obtain ⟨ys, hys⟩ : ∃ s, s = iy := ⟨_, rfl⟩; subst hys
  obtain ⟨W0, hW0⟩ : ∃ W0, W0 = ((w.alloc (.cells #[.int .u64 xt, .slice xa xn xn, .bool xs, .int .u64 yt, .slice ya yn yn, .bool ys] 76)).alloc (.cells #[.int .u64 0, .slice none 0 0, .bool false, .int .u64 0, .slice none 0 0, .bool false] 76)) := ⟨_, rfl⟩
  have ST : St w W0 [(w.heap.size + 1, .int .u64 0, .slice none 0 0, false, .int .u64 0, .slice none 0 0, false), (w.heap.size, .int .u64 xt, .slice xa xn xn, xs, .int .u64 yt, .slice ya yn yn, ys)] [] [(.int .u64 yt, .slice ya yn yn, ys, y), (.int .u64 xt, .slice xa xn xn, xs, x)] := by
    rw [hW0]
    exact ((((St.zero).know hx).know hy).allocR (k := w.heap.size) (t := 76) (by first | rfl | (simp; done) | (simp; omega))).allocR (k := w.heap.size + 1) (t := 76) (by first | rfl | (simp; done) | (simp; omega))
  replace ST := Lib.hid ST
  clear hx hy
  go_enter Tryz.func126, Tryz.ntmps126
  go_wp2_with fail
  rw [← hW0]
  clear hW0
  (first | clear q0 q1 q2 q3 q4 q5 q6 q7 q8 q9 q10 q11 | skip); obtain ⟨q0, q1, q2, q3, q4, q5, q6, q7, q8, q9, q10, q11⟩ := ST.out.rats (w.heap.size + 1, .int .u64 0, .slice none 0 0, false, .int .u64 0, .slice none 0 0, false) (by with_reducible ((repeat ((fail_if_success exact mem0); apply List.mem_cons_of_mem)); exact mem0)); dsimp only at q0 q1 q2 q3 q4 q5 q6 q7 q8 q9 q10 q11
  go_region_held3 (fun W => (W.cell? ⟨w.heap.size, 0, none⟩ = some (.int .u64 xt) ∧ W.cell? ⟨w.heap.size, 1, none⟩ = some (.slice xa xn xn) ∧ W.cell? ⟨w.heap.size, 2, none⟩ = some (.bool xs) ∧ W.cell? ⟨w.heap.size, 3, none⟩ = some (.int .u64 yt) ∧ W.cell? ⟨w.heap.size, 4, none⟩ = some (.slice ya yn yn) ∧ W.cell? ⟨w.heap.size, 5, none⟩ = some (.bool ys))) ((exact St.rat (w := w) (by ((with_reducible iterate 4 try first | apply St.drew | apply St.alloc | apply St.allocR | apply St.putR); ((with_reducible exact ST.out); all_goals (first | rfl | (simp; done) | (simp; omega))))) (by with_reducible ((repeat ((fail_if_success exact mem0); apply List.mem_cons_of_mem)); exact mem0)))) (first | (go_at_call 159; refine St.arm (w := w) (by ((with_reducible iterate 4 try first | apply St.drew | apply St.alloc | apply St.allocR | apply St.putR); ((with_reducible exact ST.out); all_goals (first | rfl | (simp; done) | (simp; omega))))) (by intro H; with_reducible exact Op1.run NG (H.int (by with_reducible ((repeat ((fail_if_success exact mem0); apply List.mem_cons_of_mem)); exact mem0)))) ?_; rintro e w1 ⟨⟨p1, v1, rfl, hv1, hb1⟩, H⟩; obtain ⟨r1s, hs1⟩ : ∃ sgn, sgn = decide (z < 0) := ⟨_, rfl⟩; rw [← hs1]; have hi := And.intro hv1 hs1; obtain ⟨r1t, r1a, r1n, rfl, rfl, -, -, -, -, -, -⟩ := hv1.form; replace ST := Lib.hid ((H.call hb1).know hi); clear hi H hv1 hb1 hs1; (first | clear q0 q1 q2 q3 q4 q5 q6 q7 q8 q9 q10 q11 | skip); obtain ⟨q0, q1, q2, q3, q4, q5, q6, q7, q8, q9, q10, q11⟩ := ST.out.rats (w.heap.size + 1, .int .u64 0, .slice none 0 0, false, .int .u64 0, .slice none 0 0, false) (by with_reducible ((repeat ((fail_if_success exact mem0); apply List.mem_cons_of_mem)); exact mem0)); dsimp only at q0 q1 q2 q3 q4 q5 q6 q7 q8 q9 q10 q11) | fail)
  all_goals
    go_wp2
    exact bodyPost_ret (v := .agg #[.int .u64 r1t, .slice r1a r1n r1n, .bool r1s, .int .u64 yt, .slice ya yn yn, .bool ys]) (by simp [results, Tryz.results126, go_sem, q0, q1, q2, q3, q4, q5]) rfl (ST.out.giveR (k := w.heap.size + 1) (by with_reducible ((repeat ((fail_if_success exact mem0); apply List.mem_cons_of_mem)); exact mem0)) (by omega) (by with_reducible ((repeat ((fail_if_success exact mem0); apply List.mem_cons_of_mem)); exact mem0)) (by with_reducible ((repeat ((fail_if_success exact mem0); apply List.mem_cons_of_mem)); exact mem0)))
end Go.Proofs.YtkhebidmfjbhaaaGreatDoor
