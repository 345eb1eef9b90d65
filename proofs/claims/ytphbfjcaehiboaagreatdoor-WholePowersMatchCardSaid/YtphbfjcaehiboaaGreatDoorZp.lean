/-
  What euclid.step does.
-/
import Derived.Test.YtphbfjcaehiboaaGreatDoorZo
import Derived.Test.YtphbfjcaehiboaaGreatDoorZb
import Derived.Deep.RegionHeld3
import Derived.Deep.Cut
namespace Go.Proofs.YtphbfjcaehiboaaGreatDoor
open Go.RowKit

/-- The stage of the algorithm that lies at g. -/
structure EB (W : World) (g : Nat) (va vb vs vt : Value) (mn : Bool) (a b s t : Int) : Prop where
  lt : g < W.heap.size
  ca : Slot W g 0 va
  cb : Slot W g 1 vb
  cs : Slot W g 2 vs
  ct : Slot W g 3 vt
  cm : Slot W g 4 (.bool mn)
  na : NatV W va a
  nb : NatV W vb b
  ns : NatV W vs s
  nt : NatV W vt t
theorem EB.step {W W' : World} {g : Nat} {va vb vs vt : Value} {mn : Bool} {a b s t : Int} (h : EB W g va vb vs vt mn a b s t) (hb : Below W.heap.size W W') : EB W' g va vb vs vt mn a b s t :=
  ⟨Nat.lt_of_lt_of_le h.lt hb.size, h.ca.below hb h.lt, h.cb.below hb h.lt, h.cs.below hb h.lt, h.ct.below hb h.lt, h.cm.below hb h.lt, h.na.below hb, h.nb.below hb, h.ns.below hb, h.nt.below hb⟩
theorem EB.drew {W : World} {g : Nat} {va vb vs vt : Value} {mn : Bool} {a b s t : Int} (h : EB W g va vb vs vt mn a b s t) : EB W.drew g va vb vs vt mn a b s t := h.step (below_drew _)
/-- The two cells that a line reads, and that all below is as it was. -/
theorem SK {w W : World} {g : Nat} {va vb vs vt : Value} {mn : Bool} {a b s t : Int} (h : EB w g va vb vs vt mn a b s t) (hb : Below w.heap.size w W) :
    (W.cell? ⟨g, 0, none⟩ = some va ∧ W.cell? ⟨g, 1, none⟩ = some vb) ∧ Below w.heap.size w W :=
  ⟨⟨(h.step hb).ca.1, (h.step hb).cb.1⟩, hb⟩
def SlotE (W : World) (k : Nat) : Prop := ∃ u, Slot W k 0 u
theorem Slot.e {W : World} {k : Nat} {u : Value} (h : Slot W k 0 u) : SlotE W k := ⟨u, h⟩
theorem slot_same {W : World} {k : Nat} {v : Value} (h : SlotE W k) : Slot (W.setCell ⟨k, 0, none⟩ v) k 0 v := by
  obtain ⟨u, h⟩ := h
  exact ⟨World.cell?_setCell_same _ _ _ h.1, by rw [World.frozen?_setCell]; exact h.2⟩
theorem slot_other {W : World} {k r : Nat} {u v : Value} (h : Slot W k 0 u) (hk : k ≠ r) : Slot (W.setCell ⟨r, 0, none⟩ v) k 0 u :=
  ⟨by rw [World.cell?_setCell_other _ _ _ _ (by intro e; injection e with e1; exact hk (by omega))]; exact h.1, by rw [World.frozen?_setCell]; exact h.2⟩
theorem Slot.lt {W : World} {k o : Nat} {u : Value} (h : Slot W k o u) : k < W.heap.size := World.block_lt_of_cell? W ⟨k, o, none⟩ h.1
theorem slot_alloc {W : World} {k : Nat} {u : Value} {o : Obj} (h : Slot W k 0 u) : Slot (W.alloc o) k 0 u := h.below (alloc_below _ _) h.lt
theorem slotE_other {W : World} {k r : Nat} {v : Value} (h : SlotE W k) (hk : k ≠ r) : SlotE (W.setCell ⟨r, 0, none⟩ v) k := by
  obtain ⟨u, h⟩ := h
  exact ⟨u, slot_other h hk⟩
theorem slotE_alloc {W : World} {k : Nat} {o : Obj} (h : SlotE W k) : SlotE (W.alloc o) k := by
  obtain ⟨u, h⟩ := h
  exact ⟨u, slot_alloc h⟩
theorem slotE_new (W : World) (u : Value) (t : TypeId) (r : Nat) (hr : r = W.heap.size) : SlotE (W.alloc (.cells #[u] t)) r := (slot_new W u t r hr).e
theorem nat_set {W : World} {v : Value} {x : Int} {k n c : Nat} {a : Option Addr} {u : Value} (h : NatV W v x) (hs : Slot W k 0 (.slice a n c)) : NatV (W.setCell ⟨k, 0, none⟩ u) v x := h.store hs.1 (fun _ e => by cases e) _
theorem nat_alloc {W : World} {v : Value} {x : Int} {o : Obj} (h : NatV W v x) : NatV (W.alloc o) v x := h.below (alloc_below _ _)
theorem below_put {w W : World} {B k : Nat} {u : Value} (h : Below B w W) (hk : B ≤ k) : Below B w (W.setCell ⟨k, 0, none⟩ u) := below_set h 0 hk u
theorem below_more {w W : World} {o : Obj} (h : Below w.heap.size w W) : Below w.heap.size w (W.alloc o) := h.alloc h.size _
theorem box2 {w w1 : World} {o1 o2 : Value} {t1 t2 : TypeId} (hb : Below ((w.alloc (.cells #[o1] t1)).alloc (.cells #[o2] t2)).drew.heap.size ((w.alloc (.cells #[o1] t1)).alloc (.cells #[o2] t2)).drew w1) :
    Slot w1 w.heap.size 0 o1 ∧ Slot w1 (w.heap.size + 1) 0 o2 ∧ w.heap.size + 1 < w1.heap.size := by
  replace hb := below_undrew hb
  have hs := hb.size
  rw [World.size_alloc, World.size_alloc] at hs
  refine ⟨?_, ?_, by omega⟩
  · exact ((slot_new w o1 t1 w.heap.size rfl).below (alloc_below _ _) (by rw [World.size_alloc]; omega)).below hb (by rw [World.size_alloc, World.size_alloc]; omega)
  · exact (slot_new (w.alloc (.cells #[o1] t1)) o2 t2 (w.heap.size + 1) (by rw [World.size_alloc])).below hb (by rw [World.size_alloc, World.size_alloc]; omega)
theorem box1 {w w1 : World} {o1 : Value} {t1 : TypeId} (hb : Below (w.alloc (.cells #[o1] t1)).drew.heap.size (w.alloc (.cells #[o1] t1)).drew w1) :
    Slot w1 w.heap.size 0 o1 ∧ w.heap.size < w1.heap.size ∧ w.heap.size ≠ w1.heap.size ∧ w1.heap.size ≠ w.heap.size := by
  replace hb := below_undrew hb
  have hs := hb.size
  rw [World.size_alloc] at hs
  exact ⟨(slot_new w o1 t1 w.heap.size rfl).below hb (by rw [World.size_alloc]; omega), by omega, by omega, by omega⟩
theorem slotO_same {W : World} {k o : Nat} {u v : Value} (h : Slot W k o u) : Slot (W.setCell ⟨k, o, none⟩ v) k o v :=
  ⟨World.cell?_setCell_same _ _ _ h.1, by rw [World.frozen?_setCell]; exact h.2⟩
theorem slotO_other {W : World} {k o r p : Nat} {u v : Value} (h : Slot W k o u) (hk : k = r → o ≠ p) : Slot (W.setCell ⟨r, p, none⟩ v) k o u :=
  ⟨by rw [World.cell?_setCell_other _ _ _ _ (by intro e; injection e with e1 e2; exact hk (by omega) (by omega))]; exact h.1, by rw [World.frozen?_setCell]; exact h.2⟩
theorem natO_set {W : World} {v : Value} {x : Int} {k o n c : Nat} {a : Option Addr} {u : Value} (h : NatV W v x) (hs : Slot W k o (.slice a n c)) : NatV (W.setCell ⟨k, o, none⟩ u) v x := h.store hs.1 (fun _ e => by cases e) _
/-- The two cells o and p of block g, which hold naturals, are written. -/
theorem slot_two {W : World} {g o p k i : Nat} {u x y : Value} (h : Slot W k i u) (h1 : k = g → i ≠ o) (h2 : k = g → i ≠ p) : Slot ((W.setCell ⟨g, o, none⟩ x).setCell ⟨g, p, none⟩ y) k i u := slotO_other (slotO_other h h1) h2
theorem nat_two {W : World} {g o p n1 c1 n2 c2 : Nat} {a1 a2 : Option Addr} {v x y : Value} {z : Int} (h : NatV W v z) (h1 : Slot W g o (.slice a1 n1 c1)) (h2 : Slot W g p (.slice a2 n2 c2)) (hop : o ≠ p) : NatV ((W.setCell ⟨g, o, none⟩ x).setCell ⟨g, p, none⟩ y) v z :=
  natO_set (natO_set h h1) (slotO_other h2 (fun _ => (Ne.symm hop)))
theorem EB.put01 {W : World} {g n1 n2 : Nat} {a1 a2 : Option Addr} {vs vt vr : Value} {mn : Bool} {a b s t r : Int} (h : EB W g (.slice a1 n1 n1) (.slice a2 n2 n2) vs vt mn a b s t) {vq : Value} {q : Int} (hq : NatV W vq q) (hr : NatV W vr r) :
    EB ((W.setCell ⟨g, 0, none⟩ vq).setCell ⟨g, 1, none⟩ vr) g vq vr vs vt mn q r s t :=
  ⟨by rw [World.size_setCell, World.size_setCell]; exact h.lt, slotO_other (slotO_same h.ca) (fun _ => by omega), slotO_same (slotO_other h.cb (fun _ => by omega)),
    slot_two h.cs (fun _ => by omega) (fun _ => by omega), slot_two h.ct (fun _ => by omega) (fun _ => by omega), slot_two h.cm (fun _ => by omega) (fun _ => by omega),
    nat_two hq h.ca h.cb (by omega), nat_two hr h.ca h.cb (by omega), nat_two h.ns h.ca h.cb (by omega), nat_two h.nt h.ca h.cb (by omega)⟩
theorem EB.put23 {W : World} {g n1 n2 : Nat} {a1 a2 : Option Addr} {va vb vr : Value} {mn : Bool} {a b s t r : Int} (h : EB W g va vb (.slice a1 n1 n1) (.slice a2 n2 n2) mn a b s t) {vq : Value} {q : Int} (hq : NatV W vq q) (hr : NatV W vr r) :
    EB ((W.setCell ⟨g, 2, none⟩ vq).setCell ⟨g, 3, none⟩ vr) g va vb vq vr mn a b q r :=
  ⟨by rw [World.size_setCell, World.size_setCell]; exact h.lt, slot_two h.ca (fun _ => by omega) (fun _ => by omega), slot_two h.cb (fun _ => by omega) (fun _ => by omega),
    slotO_other (slotO_same h.cs) (fun _ => by omega), slotO_same (slotO_other h.ct (fun _ => by omega)), slot_two h.cm (fun _ => by omega) (fun _ => by omega),
    nat_two h.na h.cs h.ct (by omega), nat_two h.nb h.cs h.ct (by omega), nat_two hq h.cs h.ct (by omega), nat_two hr h.cs h.ct (by omega)⟩
theorem EB.put4 {W : World} {g : Nat} {va vb vs vt : Value} {mn : Bool} {a b s t : Int} (h : EB W g va vb vs vt mn a b s t) (c : Bool) : EB (W.setCell ⟨g, 4, none⟩ (.bool c)) g va vb vs vt c a b s t := by
  have hn : ∀ n : Int, Value.bool mn ≠ .int .u64 n := fun _ e => by cases e
  exact ⟨by rw [World.size_setCell]; exact h.lt, slotO_other h.ca (fun _ => by omega), slotO_other h.cb (fun _ => by omega), slotO_other h.cs (fun _ => by omega), slotO_other h.ct (fun _ => by omega), slotO_same h.cm,
    h.na.store h.cm.1 hn _, h.nb.store h.cm.1 hn _, h.ns.store h.cm.1 hn _, h.nt.store h.cm.1 hn _⟩
/-- All below block g is as it was; a box holds the number q; the stage lies at g. -/
structure EC (w W : World) (g k : Nat) (vq : Value) (q : Int) (va vb vs vt : Value) (mn : Bool) (a b s t : Int) : Prop where
  below : Below g w W
  box : Slot W k 0 vq
  nq : NatV W vq q
  eb : EB W g va vb vs vt mn a b s t
theorem EC.step {w W W' : World} {g k : Nat} {vq va vb vs vt : Value} {mn : Bool} {q a b s t : Int} (h : EC w W g k vq q va vb vs vt mn a b s t) (hb : Below W.heap.size W W') : EC w W' g k vq q va vb vs vt mn a b s t :=
  ⟨h.below.trans (hb.mono (Nat.le_of_lt h.eb.lt)), h.box.below hb h.box.lt, h.nq.below hb, h.eb.step hb⟩
/-- Two boxes that hold the numbers x and y. -/
structure RB (w W : World) (k2 k3 : Nat) (vx vy : Value) (x y : Int) : Prop where
  below : Below w.heap.size w W
  l2 : w.heap.size ≤ k2
  l3 : w.heap.size ≤ k3
  s2 : Slot W k2 0 vx
  s3 : Slot W k3 0 vy
  n2 : NatV W vx x
  n3 : NatV W vy y
theorem ec_put01 {w W : World} {g k2 k3 n1 n2 m1 m2 : Nat} {a1 a2 q1 q2 : Option Addr} {vs vt : Value} {mn : Bool} {a b s t q r : Int} (h : RB w W k2 k3 (.slice q1 m1 m1) (.slice q2 m2 m2) q r) (hg : g < w.heap.size) (e : EB W g (.slice a1 n1 n1) (.slice a2 n2 n2) vs vt mn a b s t) :
    EC w ((W.setCell ⟨g, 0, none⟩ (.slice a2 n2 n2)).setCell ⟨g, 1, none⟩ (.slice q2 m2 m2)).drew g k2 (.slice q1 m1 m1) q (.slice a2 n2 n2) (.slice q2 m2 m2) vs vt mn b r s t := by
  have h2 := h.l2
  have x : EC w ((W.setCell ⟨g, 0, none⟩ (.slice a2 n2 n2)).setCell ⟨g, 1, none⟩ (.slice q2 m2 m2)) g k2 (.slice q1 m1 m1) q (.slice a2 n2 n2) (.slice q2 m2 m2) vs vt mn b r s t :=
    ⟨below_set (below_set (h.below.mono (Nat.le_of_lt hg)) 0 (Nat.le_refl _) _) 1 (Nat.le_refl _) _, slot_two h.s2 (fun e => by omega) (fun e => by omega), nat_two h.n2 e.ca e.cb (by omega), e.put01 e.nb h.n3⟩
  exact x.step (below_drew _)
set_option maxHeartbeats 4000000 in
set_option maxRecDepth 100000 in
theorem step_any (g : Nat) (w : World) (va vb vs vt : Value) (mn : Bool) (a b s t : Int) (h : EB w g va vb vs vt mn a b s t) (hb : 0 < b) (ha9 : nl a ≤ 20000) (hs9 : nl s ≤ 20000) (ht9 : nl t ≤ 20000) :
    Calls Tryz.prog 135 #[.pointer (some ⟨g, 0, none⟩)] w (fun e w' => e = .returned (.tuple #[]) ∧ Below g w w' ∧ ∃ va' vb' vs' vt', EB w' g va' vb' vs' vt' (!mn) b (a % b) t (s + (a / b) * t)) := by
  have EH := Lib.hid h
  obtain ⟨a1, n1, rfl, x1, x2, x3, x4, x5⟩ := h.na.form
  clear x1 x2 x3 x4 x5
  obtain ⟨a2, n2, rfl, x1, x2, x3, x4, x5⟩ := h.nb.form
  clear x1 x2 x3 x4 x5
  obtain ⟨a3, n3, rfl, x1, x2, x3, x4, x5⟩ := h.ns.form
  clear x1 x2 x3 x4 x5
  obtain ⟨a4, n4, rfl, x1, x2, x3, x4, x5⟩ := h.nt.form
  clear x1 x2 x3 x4 x5
  have hlt := h.lt
  have c0 := h.ca.1
  have c1 := h.cb.1
  clear h
  have hdv := fun W (h : EB W g (.slice a1 n1 n1) (.slice a2 n2 n2) (.slice a3 n3 n3) (.slice a4 n4 n4) mn a b s t) => divide_any _ _ a b W h.na h.nb hb (by omega)
  have hq9 : nl (a / b) ≤ 20000 := by
    have h0 := (EH.out).na.1
    exact Nat.le_trans (nl_mono h0 (Int.ediv_le_self _ h0)) ha9
  have hqt9 : nl (a / b * t) ≤ 40000 := by
    have h0 := (EH.out).na.1
    have := nl_mul (Int.ediv_nonneg h0 (by omega)) (EH.out).nt.1 (x := a / b)
    omega
  have DV := Lib.hid hdv
  clear hdv
  go_enter Tryz.func135, Tryz.ntmps135
  go_upto_region 0 with fail
  go_cut [2, 3] from 4 (fun x y W => ∃ k2 k3 q1 m1 q2 m2, x = .pointer (some ⟨k2, 0, none⟩) ∧ y = .pointer (some ⟨k3, 0, none⟩) ∧ RB w W k2 k3 (.slice q1 m1 m1) (.slice q2 m2 m2) (a / b) (a % b))
  case first =>
    go_region_held3 (fun W => (W.cell? ⟨g, 0, none⟩ = some (.slice a1 n1 n1) ∧ W.cell? ⟨g, 1, none⟩ = some (.slice a2 n2 n2)) ∧ Below w.heap.size w W) ((refine SK EH.out ?_; repeat (first | with_reducible exact HB1.out | with_reducible exact below_drew _ | with_reducible exact Below.refl _ _ | with_reducible refine Below.drew ?_ | with_reducible refine below_put ?_ (by first | exact Nat.le_refl _ | exact Nat.le_succ _ | exact HS1.out | exact Nat.le_succ_of_le HS1.out) | with_reducible refine below_more ?_))) (first | (go_at_call 91; have hH := ‹(_ ∧ _) ∧ Below w.heap.size w _›; refine Calls.mono (DV.out _ ?hv) ?_; (case hv => exact EH.out.step hH.2); rintro e w1 ⟨v1, v2, rfl, hv1, hv2, hb1⟩; have HB1 := Lib.hid (hH.2.trans (hb1.mono hH.2.size)); have HS1 := Lib.hid HB1.out.size; clear hH; (first | ((with_reducible have hbx := box2 hb1); obtain ⟨⟨y1, y2⟩, ⟨y3, y4⟩, hs1⟩ := hbx) | ((with_reducible have hbx := box1 hb1); obtain ⟨⟨y1, y2⟩, hs1, hs3, hs4⟩ := hbx) | skip); obtain ⟨q1, m1, rfl, x1, x2, x3, x4, x5⟩ := hv1.form; clear x1 x2 x3 x4 x5; obtain ⟨q2, m2, rfl, x1, x2, x3, x4, x5⟩ := hv2.form; clear x1 x2 x3 x4 x5; have V1 := Lib.hid hv1; have V2 := Lib.hid hv2; clear hv1 hv2 hb1))
    all_goals (go_wp2_with fail; go_meet; case rel => (refine ⟨_, _, q1, m1, q2, m2, rfl, rfl, ?_, ?_, ?_, ?_, ?_, ?_, ?_⟩ <;> first | first | exact Nat.le_refl _ | exact Nat.le_succ _ | exact HS1.out | exact Nat.le_succ_of_le HS1.out | ((repeat (first | exact HB1.out | refine below_put ?_ (by first | exact Nat.le_refl _ | exact Nat.le_succ _ | exact HS1.out | exact Nat.le_succ_of_le HS1.out) | refine below_more ?_)); done) | ((repeat (first | exact ⟨y1, y2⟩ | exact ⟨y3, y4⟩ | exact slot_new _ _ _ _ (by first | rfl | (simp; done) | (simp; omega)) | (refine slot_same ?_; (repeat (first | exact Slot.e ⟨y1, y2⟩ | exact Slot.e ⟨y3, y4⟩ | exact slotE_new _ _ _ _ (by first | rfl | (simp; done) | (simp; omega)) | refine slotE_other ?_ (by first | assumption | omega) | refine slotE_alloc ?_)); done) | refine slot_other ?_ (by first | assumption | omega) | refine slot_alloc ?_)); done) | ((repeat (first | exact V1.out | exact V2.out | refine nat_alloc ?_ | (refine nat_set (a := none) (n := 0) (c := 0) ?_ ?_; case refine_2 => (repeat (first | exact ⟨y1, y2⟩ | exact ⟨y3, y4⟩ | exact slot_new _ _ _ _ (by first | rfl | (simp; done) | (simp; omega)) | (refine slot_same ?_; (repeat (first | exact Slot.e ⟨y1, y2⟩ | exact Slot.e ⟨y3, y4⟩ | exact slotE_new _ _ _ _ (by first | rfl | (simp; done) | (simp; omega)) | refine slotE_other ?_ (by first | assumption | omega) | refine slotE_alloc ?_)); done) | refine slot_other ?_ (by first | assumption | omega) | refine slot_alloc ?_)); done))); done)))
  case rest =>
    obtain ⟨k2, k3, q1, m1, q2, m2, rfl, rfl, hrb⟩ := hcut
    have hne : k2 ≠ g := by have := hrb.l2; omega
    have hne' : g ≠ k2 := fun e => hne e.symm
    have hn3 : k3 ≠ g := by have := hrb.l3; omega
    have hn3' : g ≠ k3 := fun e => hn3 e.symm
    have E1 := Lib.hid (EH.out.step hrb.below)
    have RBH := Lib.hid hrb
    obtain ⟨e1, e2⟩ := E1.out.ca
    obtain ⟨e3, e4⟩ := E1.out.cb
    obtain ⟨e5, e6⟩ := hrb.s3
    clear hrb c0 c1
    go_upto_region 1 with fail
    go_cut [] from 16 (fun W => EC w W g k2 (.slice q1 m1 m1) (a / b) (.slice a2 n2 n2) (.slice q2 m2 m2) (.slice a3 n3 n3) (.slice a4 n4 n4) mn b (a % b) s t)
    case first =>
      go_region
      all_goals (go_wp2_with fail; go_meet; case rel => exact ec_put01 RBH.out hlt E1.out)
    case rest =>
      have CH := Lib.hid hcut
      obtain ⟨d1, d2⟩ := hcut.eb.cs
      obtain ⟨d3, d4⟩ := hcut.eb.ct
      obtain ⟨d5, d6⟩ := hcut.eb.cm
      have HPR := Lib.hid (fun W (h : EC w W g k2 (.slice q1 m1 m1) (a / b) (.slice a2 n2 n2) (.slice q2 m2 m2) (.slice a3 n3 n3) (.slice a4 n4 n4) mn b (a % b) s t) => product_any _ _ (a / b) t W h.nq h.eb.nt (Nat.le_trans hq9 (by omega)) (by omega))
      have CHD := Lib.hid (CH.out.step (below_drew _))
      clear hcut E1 RBH e1 e2 e3 e4 e5 e6
      go_upto_region 2 with fail
      go_cut [] from 27 (fun W => ∃ vs' vt', Below g w W ∧ EB W g (.slice a2 n2 n2) (.slice q2 m2 m2) vs' vt' mn b (a % b) t (s + a / b * t))
      case first =>
        refine region_till (S := fun (W : World) => W.cell? ⟨g, 2, none⟩ = some (.slice a3 n3 n3) ∧ W.cell? ⟨g, 3, none⟩ = some (.slice a4 n4 n4) ∧ W.cell? ⟨k2, 0, none⟩ = some (.slice q1 m1 m1)) (M := 17) (by kernel_rfl) ?_
        have hS0 : (fun (W : World) => W.cell? ⟨g, 2, none⟩ = some (.slice a3 n3 n3) ∧ W.cell? ⟨g, 3, none⟩ = some (.slice a4 n4 n4) ∧ W.cell? ⟨k2, 0, none⟩ = some (.slice q1 m1 m1)) _ := ⟨CHD.out.eb.cs.1, CHD.out.eb.ct.1, CHD.out.box.1⟩
        refine till_any (i := 0) (v := ?_) rfl rfl (by kernel_rfl) (by kernel_rfl) (by kernel_rfl) (fun _ _ _ h => h) hS0 (Or.inl ⟨by rfl, ?_⟩) ?_
        rotate_left
        · ((intro W hW; (try dsimp only at hW); go_simp) <;> (with_reducible rfl))
        try simp only [Act.put, List.setIfInBounds_toArray, List.set_cons_zero, List.set_cons_succ, List.getElem_toArray, List.getElem_cons_zero]
        refine till_any (i := 1) (v := ?_) rfl rfl (by kernel_rfl) (by kernel_rfl) (by kernel_rfl) (fun _ _ _ h => h) hS0 (Or.inl ⟨by rfl, ?_⟩) ?_
        rotate_left
        · ((intro W hW; (try dsimp only at hW); go_simp) <;> (with_reducible rfl))
        try simp only [Act.put, List.setIfInBounds_toArray, List.set_cons_zero, List.set_cons_succ, List.getElem_toArray, List.getElem_cons_succ, List.getElem_cons_zero]
        refine till_any (i := 2) (v := ?_) rfl rfl (by kernel_rfl) (by kernel_rfl) (by kernel_rfl) (fun _ _ _ h => h) hS0 (Or.inl ⟨by rfl, ?_⟩) ?_
        rotate_left
        · ((intro W hW; (try dsimp only at hW); go_simp) <;> (with_reducible rfl))
        try simp only [Act.put, List.setIfInBounds_toArray, List.set_cons_zero, List.set_cons_succ, List.getElem_toArray, List.getElem_cons_succ, List.getElem_cons_zero]
        refine till_any (i := 3) (v := ?_) rfl rfl (by kernel_rfl) (by kernel_rfl) (by kernel_rfl) (fun _ _ _ h => h) hS0 (Or.inl ⟨by rfl, ?_⟩) ?_
        rotate_left
        · ((intro W hW; (try dsimp only at hW); go_simp) <;> (with_reducible rfl))
        try simp only [Act.put, List.setIfInBounds_toArray, List.set_cons_zero, List.set_cons_succ, List.getElem_toArray, List.getElem_cons_succ, List.getElem_cons_zero]
        refine till_any (i := 4) (v := ?_) rfl rfl (by kernel_rfl) (by kernel_rfl) (by kernel_rfl) (fun _ _ _ h => h) hS0 (Or.inl ⟨by rfl, ?_⟩) ?_
        rotate_left
        · ((intro W hW; (try dsimp only at hW); go_simp) <;> (with_reducible rfl))
        try simp only [Act.put, List.setIfInBounds_toArray, List.set_cons_zero, List.set_cons_succ, List.getElem_toArray, List.getElem_cons_succ, List.getElem_cons_zero]
        refine till_held (i := 5) (v := ?_) [5, 17] rfl rfl (by kernel_rfl) (by kernel_rfl) (by kernel_rfl) (by kernel_rfl) (fun _ _ _ h => h) hS0 (Or.inl ⟨by rfl, ?_⟩) ?_
        rotate_left
        · ((intro W hW; (try dsimp only at hW); go_simp) <;> (with_reducible rfl))
        try simp only [Act.put, List.setIfInBounds_toArray, List.set_cons_zero, List.set_cons_succ, List.getElem_toArray, List.getElem_cons_succ, List.getElem_cons_zero]
        refine till_any (i := 6) (v := ?_) rfl rfl (by kernel_rfl) (by kernel_rfl) (by kernel_rfl) (fun _ _ _ h => h) hS0 (Or.inl ⟨by rfl, ?_⟩) ?_
        rotate_left
        · ((intro W hW; (try dsimp only at hW); go_simp) <;> (with_reducible rfl))
        try simp only [Act.put, List.setIfInBounds_toArray, List.set_cons_zero, List.set_cons_succ, List.getElem_toArray, List.getElem_cons_succ, List.getElem_cons_zero]
        refine till_any (i := 7) (v := ?_) rfl rfl (by kernel_rfl) (by kernel_rfl) (by kernel_rfl) (fun _ _ _ h => h) hS0 (Or.inl ⟨by rfl, ?_⟩) ?_
        rotate_left
        · ((intro W hW; (try dsimp only at hW); go_simp) <;> (with_reducible rfl))
        try simp only [Act.put, List.setIfInBounds_toArray, List.set_cons_zero, List.set_cons_succ, List.getElem_toArray, List.getElem_cons_succ, List.getElem_cons_zero]
        refine till_any (i := 8) (v := ?_) rfl rfl (by kernel_rfl) (by kernel_rfl) (by kernel_rfl) (fun _ _ _ h => h) hS0 (Or.inl ⟨by rfl, ?_⟩) ?_
        rotate_left
        · ((intro W hW; (try dsimp only at hW); go_simp) <;> (with_reducible rfl))
        try simp only [Act.put, List.setIfInBounds_toArray, List.set_cons_zero, List.set_cons_succ, List.getElem_toArray, List.getElem_cons_succ, List.getElem_cons_zero]
        refine till_held (i := 9) (v := ?_) [9, 17] rfl rfl (by kernel_rfl) (by kernel_rfl) (by kernel_rfl) (by kernel_rfl) (fun _ _ _ h => h) hS0 (Or.inl ⟨by rfl, ?_⟩) ?_
        rotate_left
        · ((intro W hW; (try dsimp only at hW); go_simp) <;> (with_reducible rfl))
        try simp only [Act.put, List.setIfInBounds_toArray, List.set_cons_zero, List.set_cons_succ, List.getElem_toArray, List.getElem_cons_succ, List.getElem_cons_zero]
        refine till_held (i := 10) (v := ?_) [10, 15, 17] rfl rfl (by kernel_rfl) (by kernel_rfl) (by kernel_rfl) (by kernel_rfl) (fun _ _ _ h => h) hS0 (Or.inl ⟨by rfl, ?_⟩) ?_
        rotate_left
        · ((intro W hW; (try dsimp only at hW); go_simp) <;> (with_reducible rfl))
        try simp only [Act.put, List.setIfInBounds_toArray, List.set_cons_zero, List.set_cons_succ, List.getElem_toArray, List.getElem_cons_succ, List.getElem_cons_zero]
        refine till_any (i := 11) (v := ?_) rfl rfl (by kernel_rfl) (by kernel_rfl) (by kernel_rfl) (fun _ _ _ h => h) hS0 (Or.inl ⟨by rfl, ?_⟩) ?_
        rotate_left
        · ((intro W hW; (try dsimp only at hW); go_simp) <;> (with_reducible rfl))
        try simp only [Act.put, List.setIfInBounds_toArray, List.set_cons_zero, List.set_cons_succ, List.getElem_toArray, List.getElem_cons_succ, List.getElem_cons_zero]
        refine till_any (i := 12) (v := ?_) rfl rfl (by kernel_rfl) (by kernel_rfl) (by kernel_rfl) (fun _ _ _ h => h) hS0 (Or.inl ⟨by rfl, ?_⟩) ?_
        rotate_left
        · ((intro W hW; (try dsimp only at hW); go_simp) <;> (with_reducible rfl))
        try simp only [Act.put, List.setIfInBounds_toArray, List.set_cons_zero, List.set_cons_succ, List.getElem_toArray, List.getElem_cons_succ, List.getElem_cons_zero]
        refine till_any (i := 13) (v := ?_) rfl rfl (by kernel_rfl) (by kernel_rfl) (by kernel_rfl) (fun _ _ _ h => h) hS0 (Or.inl ⟨by rfl, ?_⟩) ?_
        rotate_left
        · ((intro W hW; (try dsimp only at hW); go_simp) <;> (with_reducible rfl))
        try simp only [Act.put, List.setIfInBounds_toArray, List.set_cons_zero, List.set_cons_succ, List.getElem_toArray, List.getElem_cons_succ, List.getElem_cons_zero]
        refine till_held (i := 14) (v := ?_) [14, 17] rfl rfl (by kernel_rfl) (by kernel_rfl) (by kernel_rfl) (by kernel_rfl) (fun _ _ _ h => h) hS0 (Or.inl ⟨by rfl, ?_⟩) ?_
        rotate_left
        · ((intro W hW; (try dsimp only at hW); go_simp) <;> (with_reducible rfl))
        try simp only [Act.put, List.setIfInBounds_toArray, List.set_cons_zero, List.set_cons_succ, List.getElem_toArray, List.getElem_cons_succ, List.getElem_cons_zero]
        refine till_one (i := 15) rfl (by kernel_rfl) (fun K hK => ?_)
        go_simp
        refine Calls.mono (HPR.out _ ?hv) ?_
        case hv => exact CH.out.step (below_drew _)
        rintro e w1 ⟨v1, rfl, hv1, hb1⟩
        have C1 := Lib.hid ((CH.out.step (below_drew _)).step hb1)
        obtain ⟨p1, l1, rfl, x1, x2, x3, x4, x5⟩ := hv1.form
        clear x1 x2 x3 x4 x5
        have hsu := sum_any _ _ _ _ _ C1.out.eb.ns hv1 (by omega) (by omega)
        have HSU := Lib.hid hsu
        clear hv1 hb1 hsu
        have hS1 : (fun (W : World) => W.cell? ⟨g, 2, none⟩ = some (.slice a3 n3 n3) ∧ W.cell? ⟨g, 3, none⟩ = some (.slice a4 n4 n4) ∧ W.cell? ⟨k2, 0, none⟩ = some (.slice q1 m1 m1)) w1 := ⟨C1.out.eb.cs.1, C1.out.eb.ct.1, C1.out.box.1⟩
        go_wp2_with fail
        refine hK.out _ _ ⟨fun _ => hS1, ?_⟩
        clear hK K
        try simp only [Act.put, List.setIfInBounds_toArray, List.set_cons_zero, List.set_cons_succ, List.getElem_toArray, List.getElem_cons_succ, List.getElem_cons_zero]
        refine till_one (i := 16) rfl (by kernel_rfl) (fun K hK => ?_)
        go_simp
        refine Calls.mono HSU.out ?_
        rintro e w2 ⟨v2, rfl, hv2, hb2⟩
        have C2 := Lib.hid (C1.out.step hb2)
        obtain ⟨p2, l2, rfl, x1, x2, x3, x4, x5⟩ := hv2.form
        clear x1 x2 x3 x4 x5
        have V2 := Lib.hid hv2
        clear hv2 hb2
        have hS2 : (fun (W : World) => W.cell? ⟨g, 2, none⟩ = some (.slice a3 n3 n3) ∧ W.cell? ⟨g, 3, none⟩ = some (.slice a4 n4 n4) ∧ W.cell? ⟨k2, 0, none⟩ = some (.slice q1 m1 m1)) w2 := ⟨C2.out.eb.cs.1, C2.out.eb.ct.1, C2.out.box.1⟩
        obtain ⟨b1, b2⟩ := C2.out.eb.cs
        obtain ⟨b3, b4⟩ := C2.out.eb.ct
        go_wp2_with fail
        refine hK.out _ _ ⟨fun _ => hS2, ?_⟩
        clear hK K
        try simp only [Act.put, List.setIfInBounds_toArray, List.set_cons_zero, List.set_cons_succ, List.getElem_toArray, List.getElem_cons_succ, List.getElem_cons_zero]
        refine till_one (i := 17) rfl (by kernel_rfl) (fun K hK => ?_)
        go_simp
        refine hK.out _ _ ⟨fun h => absurd h (by simp), ?_⟩
        clear hK K
        try simp only [Act.put, List.setIfInBounds_toArray, List.set_cons_zero, List.set_cons_succ, List.getElem_toArray, List.getElem_cons_succ, List.getElem_cons_zero]
        refine till_one (i := 18) rfl (by kernel_rfl) (fun K hK => ?_)
        go_simp
        refine hK.out _ _ ⟨fun h => absurd h (by simp), ?_⟩
        clear hK K
        try simp only [Act.put, List.setIfInBounds_toArray, List.set_cons_zero, List.set_cons_succ, List.getElem_toArray, List.getElem_cons_succ, List.getElem_cons_zero]
        refine till_one (i := 19) rfl (by kernel_rfl) (fun K hK => ?_)
        go_simp
        refine hK.out _ _ ⟨fun h => absurd h (by simp), ?_⟩
        clear hK K
        try simp only [Act.put, List.setIfInBounds_toArray, List.set_cons_zero, List.set_cons_succ, List.getElem_toArray, List.getElem_cons_succ, List.getElem_cons_zero]
        refine till_one (i := 20) rfl (by kernel_rfl) (fun K hK => ?_)
        go_simp
        refine hK.out _ _ ⟨fun h => absurd h (by simp), ?_⟩
        clear hK K
        try simp only [Act.put, List.setIfInBounds_toArray, List.set_cons_zero, List.set_cons_succ, List.getElem_toArray, List.getElem_cons_succ, List.getElem_cons_zero]
        refine till_one (i := 21) rfl (by kernel_rfl) (fun K hK => ?_)
        go_simp
        refine hK.out _ _ ⟨fun h => absurd h (by simp), ?_⟩
        clear hK K
        try simp only [Act.put, List.setIfInBounds_toArray, List.set_cons_zero, List.set_cons_succ, List.getElem_toArray, List.getElem_cons_succ, List.getElem_cons_zero]
        refine till_one (i := 22) rfl (by kernel_rfl) (fun K hK => ?_)
        go_simp
        refine hK.out _ _ ⟨fun h => absurd h (by simp), ?_⟩
        clear hK K
        try simp only [Act.put, List.setIfInBounds_toArray, List.set_cons_zero, List.set_cons_succ, List.getElem_toArray, List.getElem_cons_succ, List.getElem_cons_zero]
        refine till_done (by kernel_rfl) ?_
        go_wp2_with fail
        go_meet
        case rel => exact ⟨_, _, below_set (below_set C2.out.below 2 (Nat.le_refl _) _) 3 (Nat.le_refl _) _, C2.out.eb.put23 C2.out.eb.nt V2.out⟩
      case rest =>
        obtain ⟨vs', vt', hb9, he9⟩ := hcut
        have HB9 := Lib.hid hb9
        have HE9 := Lib.hid he9
        obtain ⟨f1, f2⟩ := he9.cm
        clear hb9 he9 CH CHD HPR d1 d2 d3 d4 d5 d6
        go_wp2
        go_end0
        exact ⟨rfl, below_set HB9.out 4 (Nat.le_refl _) _, _, _, _, _, HE9.out.put4 _⟩
end Go.Proofs.YtphbfjcaehiboaaGreatDoor
