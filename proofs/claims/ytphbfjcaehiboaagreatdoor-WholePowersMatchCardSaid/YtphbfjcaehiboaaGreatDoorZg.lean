/-
  What number.divMod returns: the floored quotient and the remainder.
-/
import Derived.Test.YtphbfjcaehiboaaGreatDoorZf
import Derived.Test.YtphbfjcaehiboaaGreatDoorZd
namespace Go.Proofs.YtphbfjcaehiboaaGreatDoor
open Go.RowKit

/-- The call hands back two integers. -/
def GivesZZ (x y : Int) (w : World) (e : Ending) (w' : World) : Prop := ∃ v u, e = .returned (.tuple #[.agg #[v, .bool (decide (x < 0))], .agg #[u, .bool (decide (y < 0))]]) ∧ NatV w' v x.natAbs ∧ NatV w' u y.natAbs ∧ Below w.heap.size w w'
/-- What stays through the body: the boxes of both numbers and of quotient and remainder, and the numbers themselves. -/
structure DS (w W : World) (u v q r : Value) (bx bs : Bool) (y n m : Int) (k : Nat) : Prop where
  below : Below w.heap.size w W
  size : w.heap.size + 1 + 1 + 1 < k
  lt : k + 1 < W.heap.size
  u1 : W.cell? ⟨w.heap.size, 1, none⟩ = some (.bool bx)
  v0 : W.cell? ⟨w.heap.size + 1, 0, none⟩ = some v
  v1 : W.cell? ⟨w.heap.size + 1, 1, none⟩ = some (.bool bs)
  k0 : W.cell? ⟨k, 0, none⟩ = some q
  k1 : W.cell? ⟨k + 1, 0, none⟩ = some r
  nv : NatV W v y
  nq : NatV W q n
  nr : NatV W r m
  f1 : Res W (w.heap.size + 1 + 1)
  f2 : Res W (w.heap.size + 1 + 1 + 1)
theorem DS.step {w W W' : World} {u v q r : Value} {bx bs : Bool} {y n m : Int} {k : Nat} (h : DS w W u v q r bx bs y n m k) (hb : Below W.heap.size W W') : DS w W' u v q r bx bs y n m k := by
  have h1 := h.size
  have h2 := h.lt
  exact ⟨h.below.trans (hb.mono h.below.size), h.size, by have := hb.size; omega, (below_at hb 1 (by omega)).trans h.u1, (below_at hb 0 (by omega)).trans h.v0, (below_at hb 1 (by omega)).trans h.v1, (below_at hb 0 (by omega)).trans h.k0, (below_at hb 0 (by omega)).trans h.k1, h.nv.below hb, h.nq.below hb, h.nr.below hb, h.f1.below hb (by omega), h.f2.below hb (by omega)⟩
theorem below_drew (w : World) : Below w.heap.size w w.drew := (Below.refl _ _).drew
/-- The same when both results lie in their boxes. -/
structure DT (w W : World) (v : Value) (bx bs : Bool) (y : Int) (A : Value) (B : Bool) (C : Value) (D : Bool) (a c : Int) : Prop where
  below : Below w.heap.size w W
  size : w.heap.size + 1 + 1 + 1 < W.heap.size
  u1 : W.cell? ⟨w.heap.size, 1, none⟩ = some (.bool bx)
  v0 : W.cell? ⟨w.heap.size + 1, 0, none⟩ = some v
  v1 : W.cell? ⟨w.heap.size + 1, 1, none⟩ = some (.bool bs)
  r0 : Slot W (w.heap.size + 1 + 1) 0 A
  r1 : Slot W (w.heap.size + 1 + 1) 1 (.bool B)
  t0 : Slot W (w.heap.size + 1 + 1 + 1) 0 C
  t1 : Slot W (w.heap.size + 1 + 1 + 1) 1 (.bool D)
  nv : NatV W v y
  na : NatV W A a
  nc : NatV W C c
theorem DT.step {w W W' : World} {v A C : Value} {bx bs B D : Bool} {y a c : Int} (h : DT w W v bx bs y A B C D a c) (hb : Below W.heap.size W W') : DT w W' v bx bs y A B C D a c := by
  have h1 := h.size
  exact ⟨h.below.trans (hb.mono h.below.size), by have := hb.size; omega, (below_at hb 1 (by omega)).trans h.u1, (below_at hb 0 (by omega)).trans h.v0, (below_at hb 1 (by omega)).trans h.v1, h.r0.below hb (by omega), h.r1.below hb (by omega), h.t0.below hb (by omega), h.t1.below hb (by omega), h.nv.below hb, h.na.below hb, h.nc.below hb⟩
theorem slot_far {w : World} {r k o : Nat} {u a b : Value} (h : Slot w k o u) (hk : k ≠ r) : Slot ((w.setCell ⟨r, 0, none⟩ a).setCell ⟨r, 1, none⟩ b) k o u := ⟨(far2 hk).trans h.1, by rw [World.frozen?_setCell, World.frozen?_setCell]; exact h.2⟩
theorem nat_not_int {w : World} {A : Value} {a : Int} (h : NatV w A a) : ∀ n : Int, A = .int .u64 n → False := by
  obtain ⟨_, _, rfl, _⟩ := h.form
  intro n e
  cases e
theorem store2s {w : World} {V A : Value} {z a : Int} {r : Nat} {B : Bool} (h : NatV w V z) (hA : NatV w A a) (h1 : w.cell? ⟨r, 0, none⟩ = some A) (h2 : w.cell? ⟨r, 1, none⟩ = some (.bool B)) (a' b' : Value) : NatV ((w.setCell ⟨r, 0, none⟩ a').setCell ⟨r, 1, none⟩ b') V z :=
  (h.store h1 (nat_not_int hA) a').store (u0 := .bool B) (by rw [World.cell?_setCell_other w _ _ _ (by intro e; injection e; omega)]; exact h2) (fun _ e => by cases e) b'
theorem slot_put0 {w : World} {r : Nat} {u a b : Value} (h : Slot w r 0 u) : Slot ((w.setCell ⟨r, 0, none⟩ a).setCell ⟨r, 1, none⟩ b) r 0 a :=
  ⟨by rw [World.cell?_setCell_other _ _ _ _ (by intro e; injection e; omega)]; exact World.cell?_setCell_same _ _ _ h.1, by rw [World.frozen?_setCell, World.frozen?_setCell]; exact h.2⟩
theorem slot_put1 {w : World} {r : Nat} {u a b : Value} (h : Slot w r 1 u) : Slot ((w.setCell ⟨r, 0, none⟩ a).setCell ⟨r, 1, none⟩ b) r 1 b :=
  ⟨World.cell?_setCell_same _ _ _ (u := u) (by rw [World.cell?_setCell_other _ _ _ _ (by intro e; injection e; omega)]; exact h.1), by rw [World.frozen?_setCell, World.frozen?_setCell]; exact h.2⟩
theorem DT.natr {w W : World} {v A C V : Value} {bx bs B D : Bool} {y a c z : Int} (h : DT w W v bx bs y A B C D a c) (hz : NatV W V z) (a' b' : Value) : NatV ((W.setCell ⟨w.heap.size + 1 + 1, 0, none⟩ a').setCell ⟨w.heap.size + 1 + 1, 1, none⟩ b') V z := store2s hz h.na h.r0.1 h.r1.1 _ _
theorem DT.natt {w W : World} {v A C V : Value} {bx bs B D : Bool} {y a c z : Int} (h : DT w W v bx bs y A B C D a c) (hz : NatV W V z) (a' b' : Value) : NatV ((W.setCell ⟨w.heap.size + 1 + 1 + 1, 0, none⟩ a').setCell ⟨w.heap.size + 1 + 1 + 1, 1, none⟩ b') V z := store2s hz h.nc h.t0.1 h.t1.1 _ _
theorem DT.putr {w W : World} {v A C : Value} {bx bs B D : Bool} {y a c : Int} (h : DT w W v bx bs y A B C D a c) {A' : Value} {a' : Int} (ha : NatV W A' a') (B' : Bool) : DT w ((W.setCell ⟨w.heap.size + 1 + 1, 0, none⟩ A').setCell ⟨w.heap.size + 1 + 1, 1, none⟩ (.bool B')) v bx bs y A' B' C D a' c :=
  ⟨below_set (below_set h.below 0 (by omega) _) 1 (by omega) _, by have := h.size; simp; omega, (far2 (by omega)).trans h.u1, (far2 (by omega)).trans h.v0, (far2 (by omega)).trans h.v1, slot_put0 h.r0, slot_put1 h.r1, slot_far h.t0 (by omega), slot_far h.t1 (by omega), h.natr h.nv _ _, h.natr ha _ _, h.natr h.nc _ _⟩
theorem DT.putt {w W : World} {v A C : Value} {bx bs B D : Bool} {y a c : Int} (h : DT w W v bx bs y A B C D a c) {C' : Value} {c' : Int} (hc : NatV W C' c') (D' : Bool) : DT w ((W.setCell ⟨w.heap.size + 1 + 1 + 1, 0, none⟩ C').setCell ⟨w.heap.size + 1 + 1 + 1, 1, none⟩ (.bool D')) v bx bs y A B C' D' a c' :=
  ⟨below_set (below_set h.below 0 (by omega) _) 1 (by omega) _, by have := h.size; simp; omega, (far2 (by omega)).trans h.u1, (far2 (by omega)).trans h.v0, (far2 (by omega)).trans h.v1, slot_far h.r0 (by omega), slot_far h.r1 (by omega), slot_put0 h.t0, slot_put1 h.t1, h.natt h.nv _ _, h.natt h.na _ _, h.natt hc _ _⟩
/-- Both results are stored into the empty boxes. -/
theorem DS.put {w W : World} {u v q r : Value} {bx bs : Bool} {y n m : Int} {k : Nat} (h : DS w W u v q r bx bs y n m k) {A C : Value} {a c : Int} (ha : NatV W A a) (hc : NatV W C c) (B D : Bool) :
    DT w ((((W.setCell ⟨w.heap.size + 1 + 1, 0, none⟩ A).setCell ⟨w.heap.size + 1 + 1, 1, none⟩ (.bool B)).setCell ⟨w.heap.size + 1 + 1 + 1, 0, none⟩ C).setCell ⟨w.heap.size + 1 + 1 + 1, 1, none⟩ (.bool D)) v bx bs y A B C D a c := by
  have h0 : DT w W v bx bs y (.slice none 0 0) false (.slice none 0 0) false 0 0 := ⟨h.below, by have := h.size; have := h.lt; omega, h.u1, h.v0, h.v1, ⟨h.f1.c0, h.f1.f0⟩, ⟨h.f1.c1, h.f1.f1⟩, ⟨h.f2.c0, h.f2.f0⟩, ⟨h.f2.c1, h.f2.f1⟩, h.nv, NatV.zero _, NatV.zero _⟩
  exact (h0.putr ha B).putt (h0.natr hc _ _) D
theorem alloc_below (w : World) (o : Obj) : Below w.heap.size w (w.alloc o) := (Below.refl _ _).alloc (Nat.le_refl _) _
end Go.Proofs.YtphbfjcaehiboaaGreatDoor
