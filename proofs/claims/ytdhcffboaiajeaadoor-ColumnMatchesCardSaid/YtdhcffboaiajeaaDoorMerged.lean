/-
  The iterator merged: the rows of two columns in order, for every loop body that keeps what lay before.
-/
import Derived.Test.YtdhcffboaiajeaaDoorCombi
import Derived.RangeFuncBox
import Derived.RangeFuncNested
import Derived.RangeFuncBound
import Derived.RangeFuncCalls
import Derived.RangeFuncLeaves
import Derived.Shelf.Abstract
import Derived.OwnWalkIn
import Derived.TacticsInMore
import Derived.LoopNIn
import Derived.LoopIn
import Derived.ControlIn
import Derived.Deep.QuietTactic
import Derived.BigQuiet
import Derived.Sort.CutIn
import Derived.BigRegionIn
namespace Go.Proofs.YtdhcffboaiajeaaDoor
open Go.RowKit Go.Shelf M

attribute [local go_sem] Oper.semAt_some

/-- A number within the range of a residue, or 0. -/
def cl (x : Int) : Int := if 0 ≤ x ∧ x ≤ 251 then x else 0
theorem cl_bd (x : Int) : 0 ≤ cl x ∧ cl x ≤ 251 := by unfold cl; split <;> omega
theorem cl_self {x : Int} (h : 0 ≤ x) (h' : x ≤ 251) : cl x = x := if_pos ⟨h, h'⟩
/-- A place as the loop gets it. -/
def enP (x : Int × Int × Int) : Array Value := #[.agg #[.int .i64 x.1, .int .i64 (cl x.2.1), .int .i64 (cl x.2.2)]]
theorem toPlain {F : Fence} {n : Nat} {P : Program} {c : Code} {Q : Exit → Act → World → Prop} {a : Act} {w : World} (hF : F = Fence.wide) (h : c.wp P Q a w) : c.wpIn F n P Q a w := by rw [hF]; exact wpIn_wide.2 h
theorem nameW {F : Fence} {n : Nat} {P : Program} {c : Code} {Q : Exit → Act → World → Prop} {a : Act} {w : World} (h : ∀ W, W = w → c.wpIn F n P Q a W) : c.wpIn F n P Q a w := h w rfl
theorem grownN_set {a w : World} {k : Nat} (h : a.grownBy w none) (hk : a.heap.size ≤ k) (o : Nat) (u : Value) : a.grownBy (w.setCell ⟨k, o, none⟩ u) none :=
  ⟨h.os, h.tape, h.output, by simp only [World.setCell, Array.size_modify]; exact h.size, fun j hj _ => (Below.heap_setCell _ _ _ _ (by show j ≠ k; omega)).trans (h.block j hj (by simp))⟩
/-- Behind wr a new block holds the place (r, x, y). -/
structure Pl3 (wr W : World) (r x y : Int) : Prop where
  bel : Below wr.heap.size wr W
  lt : wr.heap.size < W.heap.size
  c0 : W.cell? ⟨wr.heap.size, 0, none⟩ = some (.int .i64 r)
  c1 : W.cell? ⟨wr.heap.size, 1, none⟩ = some (.int .i64 x)
  c2 : W.cell? ⟨wr.heap.size, 2, none⟩ = some (.int .i64 y)
  f0 : W.frozen? ⟨wr.heap.size, 0, none⟩ = false
  f1 : W.frozen? ⟨wr.heap.size, 1, none⟩ = false
  f2 : W.frozen? ⟨wr.heap.size, 2, none⟩ = false
theorem Pl3.new (wr : World) (r x y : Int) (t : TypeId) : Pl3 wr (wr.alloc (.cells #[.int .i64 r, .int .i64 x, .int .i64 y] t)) r x y :=
  ⟨(Below.refl _ wr).alloc (Nat.le_refl _) _, by simp, by rw [World.cell?_alloc_at _ _ _ _ rfl]; rfl, by rw [World.cell?_alloc_at _ _ _ _ rfl]; rfl, by rw [World.cell?_alloc_at _ _ _ _ rfl]; rfl, World.frozen?_alloc_new _ _ _ _, World.frozen?_alloc_new _ _ _ _, World.frozen?_alloc_new _ _ _ _⟩
theorem Pl3.drew {wr W : World} {r x y : Int} (h : Pl3 wr W r x y) : Pl3 wr W.drew r x y := ⟨h.bel.drew, h.lt, h.c0, h.c1, h.c2, h.f0, h.f1, h.f2⟩
theorem Pl3.drewN {wr W : World} {r x y : Int} (h : Pl3 wr W r x y) (n : Nat) : Pl3 wr (W.drewN n) r x y := ⟨⟨h.bel.os, h.bel.tape, h.bel.output, h.bel.size, h.bel.block⟩, h.lt, h.c0, h.c1, h.c2, h.f0, h.f1, h.f2⟩
theorem Pl3.set0 {wr W : World} {r x y : Int} (h : Pl3 wr W r x y) (z : Int) : Pl3 wr (W.setCell ⟨wr.heap.size, 0, none⟩ (.int .i64 z)) z x y :=
  ⟨h.bel.setCell (p := ⟨wr.heap.size, 0, none⟩) (Nat.le_refl _) _, by simp only [World.setCell, Array.size_modify]; exact h.lt, World.cell?_setCell_same' _ _ _ (by rw [h.c0]; rfl), by rw [World.cell?_setCell_other _ _ _ _ (by intro c; injection c with _ c; omega)]; exact h.c1, by rw [World.cell?_setCell_other _ _ _ _ (by intro c; injection c with _ c; omega)]; exact h.c2, by rw [World.frozen?_setCell]; exact h.f0, by rw [World.frozen?_setCell]; exact h.f1, by rw [World.frozen?_setCell]; exact h.f2⟩
theorem Pl3.set1 {wr W : World} {r x y : Int} (h : Pl3 wr W r x y) (z : Int) : Pl3 wr (W.setCell ⟨wr.heap.size, 1, none⟩ (.int .i64 z)) r z y :=
  ⟨h.bel.setCell (p := ⟨wr.heap.size, 1, none⟩) (Nat.le_refl _) _, by simp only [World.setCell, Array.size_modify]; exact h.lt, by rw [World.cell?_setCell_other _ _ _ _ (by intro c; injection c with _ c; omega)]; exact h.c0, World.cell?_setCell_same' _ _ _ (by rw [h.c1]; rfl), by rw [World.cell?_setCell_other _ _ _ _ (by intro c; injection c with _ c; omega)]; exact h.c2, by rw [World.frozen?_setCell]; exact h.f0, by rw [World.frozen?_setCell]; exact h.f1, by rw [World.frozen?_setCell]; exact h.f2⟩
theorem Pl3.set2 {wr W : World} {r x y : Int} (h : Pl3 wr W r x y) (z : Int) : Pl3 wr (W.setCell ⟨wr.heap.size, 2, none⟩ (.int .i64 z)) r x z :=
  ⟨h.bel.setCell (p := ⟨wr.heap.size, 2, none⟩) (Nat.le_refl _) _, by simp only [World.setCell, Array.size_modify]; exact h.lt, by rw [World.cell?_setCell_other _ _ _ _ (by intro c; injection c with _ c; omega)]; exact h.c0, by rw [World.cell?_setCell_other _ _ _ _ (by intro c; injection c with _ c; omega)]; exact h.c1, World.cell?_setCell_same' _ _ _ (by rw [h.c2]; rfl), by rw [World.frozen?_setCell]; exact h.f0, by rw [World.frozen?_setCell]; exact h.f1, by rw [World.frozen?_setCell]; exact h.f2⟩
theorem Pl3.old {wr W : World} {r x y : Int} (h : Pl3 wr W r x y) {b o : Nat} {v : Value} (hb : b < wr.heap.size) (hc : wr.cell? ⟨b, o, none⟩ = some v) : W.cell? ⟨b, o, none⟩ = some v := (h.bel.cell (p := ⟨b, o, none⟩) hb).trans hc
theorem Pl3.none {wr W : World} {r x y : Int} (h : Pl3 wr W r x y) : wr.grownBy W none := ⟨h.bel.os, h.bel.tape, h.bel.output, h.bel.size, fun k hk _ => h.bel.block k hk⟩
/-- What a round keeps: what lay below n₀, and the two boxes. -/
structure KpM (n₀ Ba Bb : Nat) (W W' : World) : Prop where
  bel : Below n₀ W W'
  ka : W'.heap[Ba]? = W.heap[Ba]?
  kb : W'.heap[Bb]? = W.heap[Bb]?
theorem KpM.refl (n₀ Ba Bb : Nat) (W : World) : KpM n₀ Ba Bb W W := ⟨Below.refl _ _, rfl, rfl⟩
theorem KpM.trans {n₀ Ba Bb : Nat} {A B C : World} (h : KpM n₀ Ba Bb A B) (k : KpM n₀ Ba Bb B C) : KpM n₀ Ba Bb A C := ⟨h.bel.trans k.bel, k.ka.trans h.ka, k.kb.trans h.kb⟩
theorem KpM.of {n₀ Ba Bb m : Nat} {A B : World} (h : Below m A B) (h0 : n₀ ≤ m) (ha : Ba < m) (hb : Bb < m) : KpM n₀ Ba Bb A B := ⟨h.mono h0, h.block Ba ha, h.block Bb hb⟩
theorem KpM.put {n₀ Ba Bb : Nat} {w : World} (h0 : n₀ ≤ w.heap.size) (ha : Ba < w.heap.size) (hb : Bb < w.heap.size) (W : World) (l : Nat) (o o' : Obj) (hl : w.heap.size ≤ l) (h : W.heap[l]? = some o) (hc : o.isCells = false) (hw : o.isWalk = false) : KpM n₀ Ba Bb W (W.putObj l o') :=
  KpM.of (belowK_b (w := w) (Nat.le_refl _) W l o o' hl h hc hw) h0 ha hb
set_option maxRecDepth 100000 in
set_option maxHeartbeats 2000000 in
theorem merged1_in (F : Fence) (hF : F = Fence.wide) (n : Nat) (hf : F.fn 88) (hro : F.round = none) (hn : 1 ≤ n) (p : Int) (hp : p ≤ 251) (l Ba Bb n₀ : Nat) (va vb : Value) (a b : List Tm) (ca : Col p a) (cb : Col p b) (J Jx : List (Int × Int × Int) → World → Prop)
    (W : World) (hJ : AbidesFrom W.heap.size J)
    (hY : ∀ pre x W, J pre W → pre.length < (mg a b).length → YieldAt F (n - 1) Tryd.prog l (enP x) W fun e W' =>
      (e = .returned (.bool true) ∧ J (pre ++ [x]) W' ∧ KpM n₀ Ba Bb W W') ∨ (e = .returned (.bool false) ∧ Jx (pre ++ [x]) W'))
    (hn0 : n₀ ≤ W.heap.size) (hBa : Ba < W.heap.size) (hBb : Bb < W.heap.size) (ba : W.cell? ⟨Ba, 0, none⟩ = some va) (bb : W.cell? ⟨Bb, 0, none⟩ = some vb) (hTa : TermsV W va a) (hTb : TermsV W vb b) (ha0 : a ≠ [] → ∀ k, va.ownBlock = some k → k < n₀) (hb0 : b ≠ [] → ∀ k, vb.ownBlock = some k → k < n₀) (h0 : J [] W) :
    CallsIn F n Tryd.prog 88 #[.func (.yield l) #[] #[], .pointer (some ⟨Ba, 0, none⟩), .pointer (some ⟨Bb, 0, none⟩)] W fun e W' => (∃ v, e = .returned v) ∧
      ((∃ ys, ys = mg a b ∧ J ys W') ∨ (∃ pre, pre <+: mg a b ∧ Jx pre W')) := by
  subst hF
  obtain ⟨aa, na, rfl, a1, a2, a3⟩ := hTa
  obtain ⟨ab, nb, rfl, b1, b2, b3⟩ := hTb
  unfold maxLen at a2 b2
  refine callsIn_of_wp Tryd.func88 rfl hf ?_ hro
  simp only [Tryd.ntmps88, List.size_toArray, List.length_cons, List.length_nil, Nat.reduceAdd, Nat.reduceSub, Array.replicate_succ, Array.replicate_zero, List.push_toArray, List.append_toArray, List.nil_append, List.cons_append]
  gi_wp2
  gi_loopw [4, 5] (fun vi vj wr => ∃ (i j : Nat) (pre : List (Int × Int × Int)), i ≤ a.length ∧ j ≤ b.length ∧ vi = .int .i64 i ∧ vj = .int .i64 j ∧ mg a b = pre ++ mg (a.drop i) (b.drop j) ∧ J pre wr ∧ KpM n₀ Ba Bb W wr) (fun vi vj _ => (a.length - (intOf vi).toNat) + (b.length - (intOf vj).toNat))
  case atStart => exact ⟨0, 0, [], by omega, by omega, rfl, rfl, rfl, h0, KpM.refl _ _ _ _⟩
  case round =>
    obtain ⟨i, j, pre, hi, hj, rfl, rfl, hm, hJs, hB⟩ := hrel
    replace ba := (World.cell?_of_block (a := ⟨Ba, 0, none⟩) hB.ka).trans ba
    replace bb := (World.cell?_of_block (a := ⟨Bb, 0, none⟩) hB.kb).trans bb
    have hwz := hB.bel.size
    have hBaL : Ba < wr.heap.size := by omega
    have hBbL : Bb < wr.heap.size := by omega
    have BA := Lib.hid ba
    have BB := Lib.hid bb
    by_cases hia : i < a.length
    · obtain ⟨ga, oa, rfl, hga, hca⟩ := a3 (by omega)
      obtain ⟨p0, p1⟩ := hca i hia
      have hga0 : ga < n₀ := ha0 (fun e => by rw [e] at hia; simp at hia) ga rfl
      replace p0 := (hB.bel.cell (p := ⟨ga, oa + i * 2, none⟩) hga0).trans p0
      replace p1 := (hB.bel.cell (p := ⟨ga, oa + i * 2 + 1, none⟩) hga0).trans p1
      obtain ⟨q1, q2, q3, q4⟩ := mem_row ca (List.getElem_mem hia)
      have hda := drop_cons hia
      obtain ⟨t, ht⟩ : ∃ t, t = a[i] := ⟨_, rfl⟩
      rw [← ht] at p0 p1 q1 q2 q3 q4 hda
      have PA0 := Lib.hid p0
      have PA1 := Lib.hid p1
      have hgaL : ga < wr.heap.size := by omega
      clear hca ht
      by_cases hjb : j < b.length
      · obtain ⟨gb, ob, rfl, hgb, hcb⟩ := b3 (by omega)
        obtain ⟨r0, r1⟩ := hcb j hjb
        have hgb0 : gb < n₀ := hb0 (fun e => by rw [e] at hjb; simp at hjb) gb rfl
        replace r0 := (hB.bel.cell (p := ⟨gb, ob + j * 2, none⟩) hgb0).trans r0
        replace r1 := (hB.bel.cell (p := ⟨gb, ob + j * 2 + 1, none⟩) hgb0).trans r1
        obtain ⟨s1, s2, s3, s4⟩ := mem_row cb (List.getElem_mem hjb)
        have hdb := drop_cons hjb
        obtain ⟨s, hs⟩ : ∃ s, s = b[j] := ⟨_, rfl⟩
        rw [← hs] at r0 r1 s1 s2 s3 s4 hdb
        have PB0 := Lib.hid r0
        have PB1 := Lib.hid r1
        have hgbL : gb < wr.heap.size := by omega
        clear hcb hs
        rcases Int.lt_trichotomy t.1 s.1 with hlt | heq | hgt
        · have e1 : min t.1 s.1 = t.1 := by omega
          have e2 : (t.1 == t.1) = true := beq_self_eq_true _
          have e3 : (s.1 == t.1) = false := beq_eq_false_iff_ne.2 (by omega)
          have hx : mg (a.drop i) (b.drop j) = (t.1, t.2, 0) :: mg (a.drop (i + 1)) (b.drop j) := by
            rw [hda, hdb, mg, if_pos hlt]
          have hpl : pre.length < (mg a b).length := by rw [hm, hx]; simp
          have hm' : mg a b = (pre ++ [(t.1, t.2, 0)]) ++ mg (a.drop (i + 1)) (b.drop j) := by rw [hm, hx]; simp
          have HM := Lib.hid hm'
          clear hm' hm hx hda hdb
          have P0 := Pl3.new wr 1024 0 0 100
          gi_upto_region 3 with fail
          clear ba bb p0 p1 r0 r1
          refine nameW ?_
          intro W1 hW1
          have P1 := Lib.hid (show Pl3 wr W1 1024 0 0 from by rw [hW1]; exact P0)
          clear hW1 P0
          have x0 := P1.out.old hBaL BA.out
          have x1 := P1.out.old hBbL BB.out
          have x2 := P1.out.old hgaL PA0.out
          have x3 := P1.out.old hgaL PA1.out
          have x4 := P1.out.old hgbL PB0.out
          have x5 := P1.out.old hgbL PB1.out
          have y0 := P1.out.c0
          have y1 := P1.out.c1
          have y2 := P1.out.c2
          have z0 := P1.out.f0
          have z1 := P1.out.f1
          have z2 := P1.out.f2
          gi_upto_region 6 with fail
          refine nameW ?_
          intro W2 hW2
          have P2 := Lib.hid (show Pl3 wr W2 t.1 0 0 from by rw [hW2]; exact P1.out.set0 _)
          clear hW2
          clear x0 x1 y0 y1 y2 z0 z1 z2 x2 x3 x4 x5
          have x0 := P2.out.old hBaL BA.out
          have x1 := P2.out.old hBbL BB.out
          have x2 := P2.out.old hgaL PA0.out
          have x3 := P2.out.old hgaL PA1.out
          have x4 := P2.out.old hgbL PB0.out
          have x5 := P2.out.old hgbL PB1.out
          have y0 := P2.out.c0
          have y1 := P2.out.c1
          have y2 := P2.out.c2
          have z0 := P2.out.f0
          have z1 := P2.out.f1
          have z2 := P2.out.f2
          refine toPlain rfl ?_
          go_still_tail 9, (by kernel_rfl)
          change wpList _ _ _ _ _ W2.drew
          go_wp2
          refine nameW ?_
          intro W3 hW3
          have P3 := Lib.hid (show Pl3 wr W3 t.1 0 0 from by rw [hW3]; exact (P2.out.set0 _).drew)
          clear hW3
          clear x0 x1 y0 y1 y2 z0 z1 z2 x2 x3 x4 x5
          have x0 := P3.out.old hBaL BA.out
          have x1 := P3.out.old hBbL BB.out
          have x2 := P3.out.old hgaL PA0.out
          have x3 := P3.out.old hgaL PA1.out
          have x4 := P3.out.old hgbL PB0.out
          have x5 := P3.out.old hgbL PB1.out
          have y0 := P3.out.c0
          have y1 := P3.out.c1
          have y2 := P3.out.c2
          have z0 := P3.out.f0
          have z1 := P3.out.f1
          have z2 := P3.out.f2
          gi_upto_region 7 with fail
          refine toPlain rfl ?_
          go_quiet (fail)
          go_wp2
          refine nameW ?_
          intro W4 hW4
          have P4 := Lib.hid (show Pl3 wr W4 t.1 0 0 from by rw [hW4]; exact P3.out.drewN _)
          clear hW4
          clear x0 x1 y0 y1 y2 z0 z1 z2 x2 x3 x4 x5
          have x0 := P4.out.old hBaL BA.out
          have x1 := P4.out.old hBbL BB.out
          have x2 := P4.out.old hgaL PA0.out
          have x3 := P4.out.old hgaL PA1.out
          have x4 := P4.out.old hgbL PB0.out
          have x5 := P4.out.old hgbL PB1.out
          have y0 := P4.out.c0
          have y1 := P4.out.c1
          have y2 := P4.out.c2
          have z0 := P4.out.f0
          have z1 := P4.out.f1
          have z2 := P4.out.f2
          gi_upto_region 10 with fail
          refine nameW ?_
          intro W5 hW5
          have P5 := Lib.hid (show Pl3 wr W5 t.1 t.2 0 from by rw [hW5]; exact P4.out.set1 _)
          clear hW5
          clear x0 x1 y0 y1 y2 z0 z1 z2 x2 x3 x4 x5
          have x0 := P5.out.old hBaL BA.out
          have x1 := P5.out.old hBbL BB.out
          have x2 := P5.out.old hgaL PA0.out
          have x3 := P5.out.old hgaL PA1.out
          have x4 := P5.out.old hgbL PB0.out
          have x5 := P5.out.old hgbL PB1.out
          have y0 := P5.out.c0
          have y1 := P5.out.c1
          have y2 := P5.out.c2
          have z0 := P5.out.f0
          have z1 := P5.out.f1
          have z2 := P5.out.f2
          refine toPlain rfl ?_
          go_quiet (fail)
          go_wp2
          refine nameW ?_
          intro W6 hW6
          have P6 := Lib.hid (show Pl3 wr W6 t.1 t.2 0 from by rw [hW6]; exact P5.out.drewN _)
          clear hW6
          clear x0 x1 y0 y1 y2 z0 z1 z2 x2 x3 x4 x5
          have x0 := P6.out.old hBaL BA.out
          have x1 := P6.out.old hBbL BB.out
          have x2 := P6.out.old hgaL PA0.out
          have x3 := P6.out.old hgaL PA1.out
          have x4 := P6.out.old hgbL PB0.out
          have x5 := P6.out.old hgbL PB1.out
          have y0 := P6.out.c0
          have y1 := P6.out.c1
          have y2 := P6.out.c2
          have z0 := P6.out.f0
          have z1 := P6.out.f1
          have z2 := P6.out.f2
          gi_upto_region 13 with fail
          obtain ⟨fn, tmps, assign, body, hy, hR⟩ := hY pre (t.1, t.2, 0) W6 (hJ pre wr W6 none hJs P6.out.none (fun _ e => by cases e)) hpl
          have eP : enP (t.1, t.2, 0) = #[.agg #[.int .i64 (t.1), .int .i64 (t.2), .int .i64 (0)]] := by
            simp only [enP]
            rw [cl_self (by omega) (by omega), cl_self (by omega) (by omega)]
          rw [eP] at hy
          gi_wp2
          refine hR.mono ?_
          rintro e W9 (⟨rfl, hJ3, hk3⟩ | ⟨rfl, hJx3⟩)
          · have HB := Lib.hid (hB.trans ((KpM.of P6.out.bel (by omega) hBaL hBbL).trans hk3))
            gi_wp2
            go_roundw
            case rel => exact ⟨i + 1, j, _, by omega, by omega, by go_num, by go_num, HM.out, hJ3, HB.out⟩
            case measure => simp [intOf]; omega
          · gi_wp2
            refine bodyPost_ret (results_none rfl _ _ _) rfl ?_
            exact ⟨⟨_, rfl⟩, .inr ⟨_, ⟨_, HM.out.symm⟩, hJx3⟩⟩
        · have e1 : min t.1 s.1 = t.1 := by omega
          have e2 : (t.1 == t.1) = true := beq_self_eq_true _
          have e3 : (s.1 == t.1) = true := beq_iff_eq.2 heq.symm
          clear heq
          have hx : mg (a.drop i) (b.drop j) = (t.1, t.2, s.2) :: mg (a.drop (i + 1)) (b.drop (j + 1)) := by
            rw [hda, hdb, mg, if_neg (by have := beq_iff_eq.1 e3; omega), if_neg (by have := beq_iff_eq.1 e3; omega)]
          have hpl : pre.length < (mg a b).length := by rw [hm, hx]; simp
          have hm' : mg a b = (pre ++ [(t.1, t.2, s.2)]) ++ mg (a.drop (i + 1)) (b.drop (j + 1)) := by rw [hm, hx]; simp
          have HM := Lib.hid hm'
          clear hm' hm hx hda hdb
          have P0 := Pl3.new wr 1024 0 0 100
          gi_upto_region 3 with fail
          clear ba bb p0 p1 r0 r1
          refine nameW ?_
          intro W1 hW1
          have P1 := Lib.hid (show Pl3 wr W1 1024 0 0 from by rw [hW1]; exact P0)
          clear hW1 P0
          have x0 := P1.out.old hBaL BA.out
          have x1 := P1.out.old hBbL BB.out
          have x2 := P1.out.old hgaL PA0.out
          have x3 := P1.out.old hgaL PA1.out
          have x4 := P1.out.old hgbL PB0.out
          have x5 := P1.out.old hgbL PB1.out
          have y0 := P1.out.c0
          have y1 := P1.out.c1
          have y2 := P1.out.c2
          have z0 := P1.out.f0
          have z1 := P1.out.f1
          have z2 := P1.out.f2
          gi_upto_region 6 with fail
          refine nameW ?_
          intro W2 hW2
          have P2 := Lib.hid (show Pl3 wr W2 t.1 0 0 from by rw [hW2]; exact P1.out.set0 _)
          clear hW2
          clear x0 x1 y0 y1 y2 z0 z1 z2 x2 x3 x4 x5
          have x0 := P2.out.old hBaL BA.out
          have x1 := P2.out.old hBbL BB.out
          have x2 := P2.out.old hgaL PA0.out
          have x3 := P2.out.old hgaL PA1.out
          have x4 := P2.out.old hgbL PB0.out
          have x5 := P2.out.old hgbL PB1.out
          have y0 := P2.out.c0
          have y1 := P2.out.c1
          have y2 := P2.out.c2
          have z0 := P2.out.f0
          have z1 := P2.out.f1
          have z2 := P2.out.f2
          refine toPlain rfl ?_
          go_still_tail 9, (by kernel_rfl)
          change wpList _ _ _ _ _ W2.drew
          go_wp2
          refine nameW ?_
          intro W3 hW3
          have P3 := Lib.hid (show Pl3 wr W3 t.1 0 0 from by rw [hW3]; exact (P2.out.set0 _).drew)
          clear hW3
          clear x0 x1 y0 y1 y2 z0 z1 z2 x2 x3 x4 x5
          have x0 := P3.out.old hBaL BA.out
          have x1 := P3.out.old hBbL BB.out
          have x2 := P3.out.old hgaL PA0.out
          have x3 := P3.out.old hgaL PA1.out
          have x4 := P3.out.old hgbL PB0.out
          have x5 := P3.out.old hgbL PB1.out
          have y0 := P3.out.c0
          have y1 := P3.out.c1
          have y2 := P3.out.c2
          have z0 := P3.out.f0
          have z1 := P3.out.f1
          have z2 := P3.out.f2
          gi_upto_region 7 with fail
          refine toPlain rfl ?_
          go_quiet (fail)
          go_wp2
          refine nameW ?_
          intro W4 hW4
          have P4 := Lib.hid (show Pl3 wr W4 t.1 0 0 from by rw [hW4]; exact P3.out.drewN _)
          clear hW4
          clear x0 x1 y0 y1 y2 z0 z1 z2 x2 x3 x4 x5
          have x0 := P4.out.old hBaL BA.out
          have x1 := P4.out.old hBbL BB.out
          have x2 := P4.out.old hgaL PA0.out
          have x3 := P4.out.old hgaL PA1.out
          have x4 := P4.out.old hgbL PB0.out
          have x5 := P4.out.old hgbL PB1.out
          have y0 := P4.out.c0
          have y1 := P4.out.c1
          have y2 := P4.out.c2
          have z0 := P4.out.f0
          have z1 := P4.out.f1
          have z2 := P4.out.f2
          gi_upto_region 10 with fail
          refine nameW ?_
          intro W5 hW5
          have P5 := Lib.hid (show Pl3 wr W5 t.1 t.2 0 from by rw [hW5]; exact P4.out.set1 _)
          clear hW5
          clear x0 x1 y0 y1 y2 z0 z1 z2 x2 x3 x4 x5
          have x0 := P5.out.old hBaL BA.out
          have x1 := P5.out.old hBbL BB.out
          have x2 := P5.out.old hgaL PA0.out
          have x3 := P5.out.old hgaL PA1.out
          have x4 := P5.out.old hgbL PB0.out
          have x5 := P5.out.old hgbL PB1.out
          have y0 := P5.out.c0
          have y1 := P5.out.c1
          have y2 := P5.out.c2
          have z0 := P5.out.f0
          have z1 := P5.out.f1
          have z2 := P5.out.f2
          refine toPlain rfl ?_
          go_quiet (fail)
          go_wp2
          refine nameW ?_
          intro W6 hW6
          have P6 := Lib.hid (show Pl3 wr W6 t.1 t.2 0 from by rw [hW6]; exact P5.out.drewN _)
          clear hW6
          clear x0 x1 y0 y1 y2 z0 z1 z2 x2 x3 x4 x5
          have x0 := P6.out.old hBaL BA.out
          have x1 := P6.out.old hBbL BB.out
          have x2 := P6.out.old hgaL PA0.out
          have x3 := P6.out.old hgaL PA1.out
          have x4 := P6.out.old hgbL PB0.out
          have x5 := P6.out.old hgbL PB1.out
          have y0 := P6.out.c0
          have y1 := P6.out.c1
          have y2 := P6.out.c2
          have z0 := P6.out.f0
          have z1 := P6.out.f1
          have z2 := P6.out.f2
          gi_upto_region 13 with fail
          refine nameW ?_
          intro W7 hW7
          have P7 := Lib.hid (show Pl3 wr W7 t.1 t.2 s.2 from by rw [hW7]; exact P6.out.set2 _)
          clear hW7
          clear x0 x1 y0 y1 y2 z0 z1 z2 x2 x3 x4 x5
          have x0 := P7.out.old hBaL BA.out
          have x1 := P7.out.old hBbL BB.out
          have x2 := P7.out.old hgaL PA0.out
          have x3 := P7.out.old hgaL PA1.out
          have x4 := P7.out.old hgbL PB0.out
          have x5 := P7.out.old hgbL PB1.out
          have y0 := P7.out.c0
          have y1 := P7.out.c1
          have y2 := P7.out.c2
          have z0 := P7.out.f0
          have z1 := P7.out.f1
          have z2 := P7.out.f2
          obtain ⟨fn, tmps, assign, body, hy, hR⟩ := hY pre (t.1, t.2, s.2) W7 (hJ pre wr W7 none hJs P7.out.none (fun _ e => by cases e)) hpl
          have eP : enP (t.1, t.2, s.2) = #[.agg #[.int .i64 (t.1), .int .i64 (t.2), .int .i64 (s.2)]] := by
            simp only [enP]
            rw [cl_self (by omega) (by omega), cl_self (by omega) (by omega)]
          rw [eP] at hy
          gi_wp2
          refine hR.mono ?_
          rintro e W9 (⟨rfl, hJ3, hk3⟩ | ⟨rfl, hJx3⟩)
          · have HB := Lib.hid (hB.trans ((KpM.of P7.out.bel (by omega) hBaL hBbL).trans hk3))
            gi_wp2
            go_roundw
            case rel => exact ⟨i + 1, j + 1, _, by omega, by omega, by go_num, by go_num, HM.out, hJ3, HB.out⟩
            case measure => simp [intOf]; omega
          · gi_wp2
            refine bodyPost_ret (results_none rfl _ _ _) rfl ?_
            exact ⟨⟨_, rfl⟩, .inr ⟨_, ⟨_, HM.out.symm⟩, hJx3⟩⟩
        · have e1 : min t.1 s.1 = s.1 := by omega
          have e2 : (t.1 == s.1) = false := beq_eq_false_iff_ne.2 (by omega)
          have e3 : (s.1 == s.1) = true := beq_self_eq_true _
          have hx : mg (a.drop i) (b.drop j) = (s.1, 0, s.2) :: mg (a.drop i) (b.drop (j + 1)) := by
            rw [hda, hdb, mg, if_neg (by omega), if_pos hgt]
          have hpl : pre.length < (mg a b).length := by rw [hm, hx]; simp
          have hm' : mg a b = (pre ++ [(s.1, 0, s.2)]) ++ mg (a.drop i) (b.drop (j + 1)) := by rw [hm, hx]; simp
          have HM := Lib.hid hm'
          clear hm' hm hx hda hdb
          have P0 := Pl3.new wr 1024 0 0 100
          gi_upto_region 3 with fail
          clear ba bb p0 p1 r0 r1
          refine nameW ?_
          intro W1 hW1
          have P1 := Lib.hid (show Pl3 wr W1 1024 0 0 from by rw [hW1]; exact P0)
          clear hW1 P0
          have x0 := P1.out.old hBaL BA.out
          have x1 := P1.out.old hBbL BB.out
          have x2 := P1.out.old hgaL PA0.out
          have x3 := P1.out.old hgaL PA1.out
          have x4 := P1.out.old hgbL PB0.out
          have x5 := P1.out.old hgbL PB1.out
          have y0 := P1.out.c0
          have y1 := P1.out.c1
          have y2 := P1.out.c2
          have z0 := P1.out.f0
          have z1 := P1.out.f1
          have z2 := P1.out.f2
          gi_upto_region 6 with fail
          refine nameW ?_
          intro W2 hW2
          have P2 := Lib.hid (show Pl3 wr W2 t.1 0 0 from by rw [hW2]; exact P1.out.set0 _)
          clear hW2
          clear x0 x1 y0 y1 y2 z0 z1 z2 x2 x3 x4 x5
          have x0 := P2.out.old hBaL BA.out
          have x1 := P2.out.old hBbL BB.out
          have x2 := P2.out.old hgaL PA0.out
          have x3 := P2.out.old hgaL PA1.out
          have x4 := P2.out.old hgbL PB0.out
          have x5 := P2.out.old hgbL PB1.out
          have y0 := P2.out.c0
          have y1 := P2.out.c1
          have y2 := P2.out.c2
          have z0 := P2.out.f0
          have z1 := P2.out.f1
          have z2 := P2.out.f2
          refine toPlain rfl ?_
          go_still_tail 9, (by kernel_rfl)
          change wpList _ _ _ _ _ W2.drew
          go_wp2
          refine nameW ?_
          intro W3 hW3
          have P3 := Lib.hid (show Pl3 wr W3 s.1 0 0 from by rw [hW3]; exact (P2.out.set0 _).drew)
          clear hW3
          clear x0 x1 y0 y1 y2 z0 z1 z2 x2 x3 x4 x5
          have x0 := P3.out.old hBaL BA.out
          have x1 := P3.out.old hBbL BB.out
          have x2 := P3.out.old hgaL PA0.out
          have x3 := P3.out.old hgaL PA1.out
          have x4 := P3.out.old hgbL PB0.out
          have x5 := P3.out.old hgbL PB1.out
          have y0 := P3.out.c0
          have y1 := P3.out.c1
          have y2 := P3.out.c2
          have z0 := P3.out.f0
          have z1 := P3.out.f1
          have z2 := P3.out.f2
          gi_upto_region 7 with fail
          refine toPlain rfl ?_
          go_quiet (fail)
          go_wp2
          refine nameW ?_
          intro W4 hW4
          have P4 := Lib.hid (show Pl3 wr W4 s.1 0 0 from by rw [hW4]; exact P3.out.drewN _)
          clear hW4
          clear x0 x1 y0 y1 y2 z0 z1 z2 x2 x3 x4 x5
          have x0 := P4.out.old hBaL BA.out
          have x1 := P4.out.old hBbL BB.out
          have x2 := P4.out.old hgaL PA0.out
          have x3 := P4.out.old hgaL PA1.out
          have x4 := P4.out.old hgbL PB0.out
          have x5 := P4.out.old hgbL PB1.out
          have y0 := P4.out.c0
          have y1 := P4.out.c1
          have y2 := P4.out.c2
          have z0 := P4.out.f0
          have z1 := P4.out.f1
          have z2 := P4.out.f2
          gi_upto_region 10 with fail
          refine toPlain rfl ?_
          go_quiet (fail)
          go_wp2
          refine nameW ?_
          intro W5 hW5
          have P5 := Lib.hid (show Pl3 wr W5 s.1 0 0 from by rw [hW5]; exact P4.out.drewN _)
          clear hW5
          clear x0 x1 y0 y1 y2 z0 z1 z2 x2 x3 x4 x5
          have x0 := P5.out.old hBaL BA.out
          have x1 := P5.out.old hBbL BB.out
          have x2 := P5.out.old hgaL PA0.out
          have x3 := P5.out.old hgaL PA1.out
          have x4 := P5.out.old hgbL PB0.out
          have x5 := P5.out.old hgbL PB1.out
          have y0 := P5.out.c0
          have y1 := P5.out.c1
          have y2 := P5.out.c2
          have z0 := P5.out.f0
          have z1 := P5.out.f1
          have z2 := P5.out.f2
          gi_upto_region 13 with fail
          refine nameW ?_
          intro W6 hW6
          have P6 := Lib.hid (show Pl3 wr W6 s.1 0 s.2 from by rw [hW6]; exact P5.out.set2 _)
          clear hW6
          clear x0 x1 y0 y1 y2 z0 z1 z2 x2 x3 x4 x5
          have x0 := P6.out.old hBaL BA.out
          have x1 := P6.out.old hBbL BB.out
          have x2 := P6.out.old hgaL PA0.out
          have x3 := P6.out.old hgaL PA1.out
          have x4 := P6.out.old hgbL PB0.out
          have x5 := P6.out.old hgbL PB1.out
          have y0 := P6.out.c0
          have y1 := P6.out.c1
          have y2 := P6.out.c2
          have z0 := P6.out.f0
          have z1 := P6.out.f1
          have z2 := P6.out.f2
          obtain ⟨fn, tmps, assign, body, hy, hR⟩ := hY pre (s.1, 0, s.2) W6 (hJ pre wr W6 none hJs P6.out.none (fun _ e => by cases e)) hpl
          have eP : enP (s.1, 0, s.2) = #[.agg #[.int .i64 (s.1), .int .i64 (0), .int .i64 (s.2)]] := by
            simp only [enP]
            rw [cl_self (by omega) (by omega), cl_self (by omega) (by omega)]
          rw [eP] at hy
          gi_wp2
          refine hR.mono ?_
          rintro e W9 (⟨rfl, hJ3, hk3⟩ | ⟨rfl, hJx3⟩)
          · have HB := Lib.hid (hB.trans ((KpM.of P6.out.bel (by omega) hBaL hBbL).trans hk3))
            gi_wp2
            go_roundw
            case rel => exact ⟨i, j + 1, _, by omega, by omega, by go_num, by go_num, HM.out, hJ3, HB.out⟩
            case measure => simp [intOf]; omega
          · gi_wp2
            refine bodyPost_ret (results_none rfl _ _ _) rfl ?_
            exact ⟨⟨_, rfl⟩, .inr ⟨_, ⟨_, HM.out.symm⟩, hJx3⟩⟩
      · have hjl : j = b.length := by omega
        have hdb : b.drop j = [] := by rw [hjl, List.drop_length]
        have e2 : (t.1 == t.1) = true := beq_self_eq_true _
        have e4 : decide ((j : Int) < b.length) = false := decide_eq_false (by omega)
        have e5 : ¬ (j : Int) < b.length := by omega
        clear hjl
        have hx : mg (a.drop i) (b.drop j) = (t.1, t.2, 0) :: mg (a.drop (i + 1)) (b.drop j) := by
          rw [hda, hdb, mg]
        have hpl : pre.length < (mg a b).length := by rw [hm, hx]; simp
        have hm' : mg a b = (pre ++ [(t.1, t.2, 0)]) ++ mg (a.drop (i + 1)) (b.drop j) := by rw [hm, hx]; simp
        have HM := Lib.hid hm'
        clear hm' hm hx hda hdb
        have P0 := Pl3.new wr 1024 0 0 100
        gi_upto_region 3 with fail
        clear ba bb p0 p1
        refine nameW ?_
        intro W1 hW1
        have P1 := Lib.hid (show Pl3 wr W1 1024 0 0 from by rw [hW1]; exact P0)
        clear hW1 P0
        have x0 := P1.out.old hBaL BA.out
        have x1 := P1.out.old hBbL BB.out
        have x2 := P1.out.old hgaL PA0.out
        have x3 := P1.out.old hgaL PA1.out
        have y0 := P1.out.c0
        have y1 := P1.out.c1
        have y2 := P1.out.c2
        have z0 := P1.out.f0
        have z1 := P1.out.f1
        have z2 := P1.out.f2
        gi_upto_region 7 with fail
        refine nameW ?_
        intro W2 hW2
        have P2 := Lib.hid (show Pl3 wr W2 t.1 0 0 from by rw [hW2]; exact P1.out.set0 _)
        clear hW2
        clear x0 x1 y0 y1 y2 z0 z1 z2 x2 x3
        have x0 := P2.out.old hBaL BA.out
        have x1 := P2.out.old hBbL BB.out
        have x2 := P2.out.old hgaL PA0.out
        have x3 := P2.out.old hgaL PA1.out
        have y0 := P2.out.c0
        have y1 := P2.out.c1
        have y2 := P2.out.c2
        have z0 := P2.out.f0
        have z1 := P2.out.f1
        have z2 := P2.out.f2
        gi_upto_region 7 with fail
        refine toPlain rfl ?_
        go_quiet (fail)
        go_wp2
        refine nameW ?_
        intro W3 hW3
        have P3 := Lib.hid (show Pl3 wr W3 t.1 0 0 from by rw [hW3]; exact P2.out.drewN _)
        clear hW3
        clear x0 x1 y0 y1 y2 z0 z1 z2 x2 x3
        have x0 := P3.out.old hBaL BA.out
        have x1 := P3.out.old hBbL BB.out
        have x2 := P3.out.old hgaL PA0.out
        have x3 := P3.out.old hgaL PA1.out
        have y0 := P3.out.c0
        have y1 := P3.out.c1
        have y2 := P3.out.c2
        have z0 := P3.out.f0
        have z1 := P3.out.f1
        have z2 := P3.out.f2
        gi_upto_region 10 with fail
        refine nameW ?_
        intro W4 hW4
        have P4 := Lib.hid (show Pl3 wr W4 t.1 t.2 0 from by rw [hW4]; exact P3.out.set1 _)
        clear hW4
        clear x0 x1 y0 y1 y2 z0 z1 z2 x2 x3
        have x0 := P4.out.old hBaL BA.out
        have x1 := P4.out.old hBbL BB.out
        have x2 := P4.out.old hgaL PA0.out
        have x3 := P4.out.old hgaL PA1.out
        have y0 := P4.out.c0
        have y1 := P4.out.c1
        have y2 := P4.out.c2
        have z0 := P4.out.f0
        have z1 := P4.out.f1
        have z2 := P4.out.f2
        refine toPlain rfl ?_
        go_quiet (fail)
        go_wp2
        refine nameW ?_
        intro W5 hW5
        have P5 := Lib.hid (show Pl3 wr W5 t.1 t.2 0 from by rw [hW5]; exact P4.out.drewN _)
        clear hW5
        clear x0 x1 y0 y1 y2 z0 z1 z2 x2 x3
        have x0 := P5.out.old hBaL BA.out
        have x1 := P5.out.old hBbL BB.out
        have x2 := P5.out.old hgaL PA0.out
        have x3 := P5.out.old hgaL PA1.out
        have y0 := P5.out.c0
        have y1 := P5.out.c1
        have y2 := P5.out.c2
        have z0 := P5.out.f0
        have z1 := P5.out.f1
        have z2 := P5.out.f2
        gi_upto_region 13 with fail
        obtain ⟨fn, tmps, assign, body, hy, hR⟩ := hY pre (t.1, t.2, 0) W5 (hJ pre wr W5 none hJs P5.out.none (fun _ e => by cases e)) hpl
        have eP : enP (t.1, t.2, 0) = #[.agg #[.int .i64 (t.1), .int .i64 (t.2), .int .i64 (0)]] := by
          simp only [enP]
          rw [cl_self (by omega) (by omega), cl_self (by omega) (by omega)]
        rw [eP] at hy
        gi_wp2
        refine hR.mono ?_
        rintro e W9 (⟨rfl, hJ3, hk3⟩ | ⟨rfl, hJx3⟩)
        · have HB := Lib.hid (hB.trans ((KpM.of P5.out.bel (by omega) hBaL hBbL).trans hk3))
          gi_wp2
          go_roundw
          case rel => exact ⟨i + 1, j, _, by omega, by omega, by go_num, by go_num, HM.out, hJ3, HB.out⟩
          case measure => simp [intOf]; omega
        · gi_wp2
          refine bodyPost_ret (results_none rfl _ _ _) rfl ?_
          exact ⟨⟨_, rfl⟩, .inr ⟨_, ⟨_, HM.out.symm⟩, hJx3⟩⟩
    · have hil : i = a.length := by omega
      have hda : a.drop i = [] := by rw [hil, List.drop_length]
      have e4 : decide ((i : Int) < a.length) = false := decide_eq_false (by omega)
      have e5 : ¬ (i : Int) < a.length := by omega
      by_cases hjb : j < b.length
      · obtain ⟨gb, ob, rfl, hgb, hcb⟩ := b3 (by omega)
        obtain ⟨r0, r1⟩ := hcb j hjb
        have hgb0 : gb < n₀ := hb0 (fun e => by rw [e] at hjb; simp at hjb) gb rfl
        replace r0 := (hB.bel.cell (p := ⟨gb, ob + j * 2, none⟩) hgb0).trans r0
        replace r1 := (hB.bel.cell (p := ⟨gb, ob + j * 2 + 1, none⟩) hgb0).trans r1
        obtain ⟨s1, s2, s3, s4⟩ := mem_row cb (List.getElem_mem hjb)
        have hdb := drop_cons hjb
        obtain ⟨s, hs⟩ : ∃ s, s = b[j] := ⟨_, rfl⟩
        rw [← hs] at r0 r1 s1 s2 s3 s4 hdb
        have PB0 := Lib.hid r0
        have PB1 := Lib.hid r1
        have hgbL : gb < wr.heap.size := by omega
        clear hcb hs
        have e1 : min 1024 s.1 = s.1 := by omega
        have e3 : (s.1 == s.1) = true := beq_self_eq_true _
        clear hil
        have hx : mg (a.drop i) (b.drop j) = (s.1, 0, s.2) :: mg (a.drop i) (b.drop (j + 1)) := by
          rw [hda, hdb, mg]
        have hpl : pre.length < (mg a b).length := by rw [hm, hx]; simp
        have hm' : mg a b = (pre ++ [(s.1, 0, s.2)]) ++ mg (a.drop i) (b.drop (j + 1)) := by rw [hm, hx]; simp
        have HM := Lib.hid hm'
        clear hm' hm hx hda hdb
        have P0 := Pl3.new wr 1024 0 0 100
        gi_upto_region 3 with fail
        clear ba bb r0 r1
        refine nameW ?_
        intro W1 hW1
        have P1 := Lib.hid (show Pl3 wr W1 1024 0 0 from by rw [hW1]; exact P0)
        clear hW1 P0
        have x0 := P1.out.old hBaL BA.out
        have x1 := P1.out.old hBbL BB.out
        have x4 := P1.out.old hgbL PB0.out
        have x5 := P1.out.old hgbL PB1.out
        have y0 := P1.out.c0
        have y1 := P1.out.c1
        have y2 := P1.out.c2
        have z0 := P1.out.f0
        have z1 := P1.out.f1
        have z2 := P1.out.f2
        gi_upto_region 6 with fail
        refine toPlain rfl ?_
        go_still_tail 9, (by kernel_rfl)
        change wpList _ _ _ _ _ W1.drew
        go_wp2
        refine nameW ?_
        intro W2 hW2
        have P2 := Lib.hid (show Pl3 wr W2 s.1 0 0 from by rw [hW2]; exact (P1.out.set0 _).drew)
        clear hW2
        clear x0 x1 y0 y1 y2 z0 z1 z2 x4 x5
        have x0 := P2.out.old hBaL BA.out
        have x1 := P2.out.old hBbL BB.out
        have x4 := P2.out.old hgbL PB0.out
        have x5 := P2.out.old hgbL PB1.out
        have y0 := P2.out.c0
        have y1 := P2.out.c1
        have y2 := P2.out.c2
        have z0 := P2.out.f0
        have z1 := P2.out.f1
        have z2 := P2.out.f2
        gi_upto_region 7 with fail
        refine toPlain rfl ?_
        go_quiet (fail)
        go_wp2
        refine nameW ?_
        intro W3 hW3
        have P3 := Lib.hid (show Pl3 wr W3 s.1 0 0 from by rw [hW3]; exact P2.out.drewN _)
        clear hW3
        clear x0 x1 y0 y1 y2 z0 z1 z2 x4 x5
        have x0 := P3.out.old hBaL BA.out
        have x1 := P3.out.old hBbL BB.out
        have x4 := P3.out.old hgbL PB0.out
        have x5 := P3.out.old hgbL PB1.out
        have y0 := P3.out.c0
        have y1 := P3.out.c1
        have y2 := P3.out.c2
        have z0 := P3.out.f0
        have z1 := P3.out.f1
        have z2 := P3.out.f2
        gi_upto_region 10 with fail
        refine toPlain rfl ?_
        go_quiet (fail)
        go_wp2
        refine nameW ?_
        intro W4 hW4
        have P4 := Lib.hid (show Pl3 wr W4 s.1 0 0 from by rw [hW4]; exact P3.out.drewN _)
        clear hW4
        clear x0 x1 y0 y1 y2 z0 z1 z2 x4 x5
        have x0 := P4.out.old hBaL BA.out
        have x1 := P4.out.old hBbL BB.out
        have x4 := P4.out.old hgbL PB0.out
        have x5 := P4.out.old hgbL PB1.out
        have y0 := P4.out.c0
        have y1 := P4.out.c1
        have y2 := P4.out.c2
        have z0 := P4.out.f0
        have z1 := P4.out.f1
        have z2 := P4.out.f2
        gi_upto_region 13 with fail
        refine nameW ?_
        intro W5 hW5
        have P5 := Lib.hid (show Pl3 wr W5 s.1 0 s.2 from by rw [hW5]; exact P4.out.set2 _)
        clear hW5
        clear x0 x1 y0 y1 y2 z0 z1 z2 x4 x5
        have x0 := P5.out.old hBaL BA.out
        have x1 := P5.out.old hBbL BB.out
        have x4 := P5.out.old hgbL PB0.out
        have x5 := P5.out.old hgbL PB1.out
        have y0 := P5.out.c0
        have y1 := P5.out.c1
        have y2 := P5.out.c2
        have z0 := P5.out.f0
        have z1 := P5.out.f1
        have z2 := P5.out.f2
        obtain ⟨fn, tmps, assign, body, hy, hR⟩ := hY pre (s.1, 0, s.2) W5 (hJ pre wr W5 none hJs P5.out.none (fun _ e => by cases e)) hpl
        have eP : enP (s.1, 0, s.2) = #[.agg #[.int .i64 (s.1), .int .i64 (0), .int .i64 (s.2)]] := by
          simp only [enP]
          rw [cl_self (by omega) (by omega), cl_self (by omega) (by omega)]
        rw [eP] at hy
        gi_wp2
        refine hR.mono ?_
        rintro e W9 (⟨rfl, hJ3, hk3⟩ | ⟨rfl, hJx3⟩)
        · have HB := Lib.hid (hB.trans ((KpM.of P5.out.bel (by omega) hBaL hBbL).trans hk3))
          gi_wp2
          go_roundw
          case rel => exact ⟨i, j + 1, _, by omega, by omega, by go_num, by go_num, HM.out, hJ3, HB.out⟩
          case measure => simp [intOf]; omega
        · gi_wp2
          refine bodyPost_ret (results_none rfl _ _ _) rfl ?_
          exact ⟨⟨_, rfl⟩, .inr ⟨_, ⟨_, HM.out.symm⟩, hJx3⟩⟩
      · have hjl : j = b.length := by omega
        have HM := Lib.hid (show pre = mg a b from by rw [hm, hda, show b.drop j = [] by rw [hjl, List.drop_length], mg, List.append_nil])
        have e6 : decide ((j : Int) < b.length) = false := decide_eq_false (by omega)
        have e7 : ¬ (j : Int) < b.length := by omega
        clear hm hda hjl hil
        gi_wp2
        go_end0
        refine ⟨⟨_, rfl⟩, .inl ?_⟩
        rw [← HM.out]
        exact hJs
end Go.Proofs.YtdhcffboaiajeaaDoor
