/-
  What Number.Plus returns.
  The written multiplication, limb by limb.
  The arithmetic of a division of two words by one, half a word at a time.
  What math/bits.Div64 returns for a divisor below 2 to the power of 63.
-/
import Derived.Test.YtkhebidmfjbhaaaGreatDoorZ05
import Derived.Deep.RegionHeld3
import Derived.Test.YtkhebidmfjbhaaaGreatDoorZ01
import Derived.Test.YtkhebidmfjbhaaaGreatDoorShelf
import Derived.Laws.Bits64b
import Derived.Lib.ItoaNum
namespace Go.Proofs.YtkhebidmfjbhaaaGreatDoor
open Go.RowKit

/-- The boxes of two integers and the one of the result, from the end of w on. -/
structure Box3 (w W : World) (p v : Value) (b : Bool) (q u : Value) (c : Bool) : Prop where
  sz : w.heap.size + 1 + 1 < W.heap.size
  below : Below w.heap.size w W
  p0 : W.cell? ⟨w.heap.size, 0, none⟩ = some p
  p1 : W.cell? ⟨w.heap.size, 1, none⟩ = some v
  p2 : W.cell? ⟨w.heap.size, 2, none⟩ = some (.bool b)
  q0 : W.cell? ⟨w.heap.size + 1, 0, none⟩ = some q
  q1 : W.cell? ⟨w.heap.size + 1, 1, none⟩ = some u
  q2 : W.cell? ⟨w.heap.size + 1, 2, none⟩ = some (.bool c)
  res : Res W (w.heap.size + 1 + 1)
theorem Box3.new (w : World) (p v : Value) (b : Bool) (q u : Value) (c : Bool) (T : TypeId) : Box3 w (((w.alloc (.cells #[p, v, .bool b] T)).alloc (.cells #[q, u, .bool c] T)).alloc (.cells #[.int .u64 0, .slice none 0 0, .bool false] T)) p v b q u c where
  sz := by simp
  below := ((Below.refl _ _).alloc (Nat.le_refl _) _).alloc (by simp) _ |>.alloc (by simp; omega) _
  p0 := by rw [World.cell?_alloc_past _ _ _ (by simp; omega), World.cell?_alloc_past _ _ _ (by simp), World.cell?_alloc_new]; rfl
  p1 := by rw [World.cell?_alloc_past _ _ _ (by simp; omega), World.cell?_alloc_past _ _ _ (by simp), World.cell?_alloc_new]; rfl
  p2 := by rw [World.cell?_alloc_past _ _ _ (by simp; omega), World.cell?_alloc_past _ _ _ (by simp), World.cell?_alloc_new]; rfl
  q0 := by rw [World.cell?_alloc_past _ _ _ (by simp), World.cell?_alloc_at _ _ _ _ (by simp)]; rfl
  q1 := by rw [World.cell?_alloc_past _ _ _ (by simp), World.cell?_alloc_at _ _ _ _ (by simp)]; rfl
  q2 := by rw [World.cell?_alloc_past _ _ _ (by simp), World.cell?_alloc_at _ _ _ _ (by simp)]; rfl
  res := Res.new _ _ _ (by simp)
theorem Box3.step {w W W' : World} {p v q u : Value} {b c : Bool} (h : Box3 w W p v b q u c) (hb : Below W.heap.size W W') : Box3 w W' p v b q u c := by
  have h1 := h.sz
  exact ⟨by have := hb.size; omega, h.below.trans (hb.mono (by omega)), (below_at hb 0 (by omega)).trans h.p0, (below_at hb 1 (by omega)).trans h.p1, (below_at hb 2 (by omega)).trans h.p2, (below_at hb 0 (by omega)).trans h.q0, (below_at hb 1 (by omega)).trans h.q1, (below_at hb 2 (by omega)).trans h.q2, h.res.below hb (by omega)⟩
theorem Box3.fin {w W : World} {p v q u p' v' : Value} {b c s : Bool} {z : Int} (h : Box3 w W p v b q u c) (hv : NatV W p' v' z.natAbs) (hs : s = decide (z < 0)) :
    GivesZ z w (.returned (.agg #[p', v', .bool s])) (((W.setCell ⟨w.heap.size + 1 + 1, 0, none⟩ p').setCell ⟨w.heap.size + 1 + 1, 1, none⟩ v').setCell ⟨w.heap.size + 1 + 1, 2, none⟩ (.bool s)) :=
  giveZ h.below (by omega) h.res hv hs

set_option maxHeartbeats 2000000 in
theorem plus_eq (p v q u : Value) (b : Bool) (x y : Int) (w : World) (hu : NatV w p v x) (hv : NatV w q u y) (hx : nl x ≤ 50000) (hy : nl y ≤ 50000) (z : Int) (hz : (if b = true then -(x + y) else x + y) = z) :
    Calls Tryz.prog 148 #[.agg #[p, v, .bool b], .agg #[q, u, .bool b]] w (GivesZ z w) := by
  have OP := Lib.hid (fun W (h : Below w.heap.size w W) => sum_any _ _ _ _ x y W (hu.below h) (hv.below h) hx hy)
  obtain ⟨t, a, n, rfl, rfl, -, -, -, -, -, -⟩ := hu.form
  obtain ⟨s, d, m, rfl, rfl, -, -, -, -, -, -⟩ := hv.form
  have HZ := Lib.hid hz
  have hB := Box3.new w (.int .u64 t) (.slice a n n) b (.int .u64 s) (.slice d m m) b 74
  obtain ⟨W0, hW0⟩ : ∃ W0, W0 = (((w.alloc (.cells #[.int .u64 t, .slice a n n, .bool b] 74)).alloc (.cells #[.int .u64 s, .slice d m m, .bool b] 74)).alloc (.cells #[.int .u64 0, .slice none 0 0, .bool false] 74)) := ⟨_, rfl⟩
  rw [← hW0] at hB
  have ST := Lib.hid hB
  obtain ⟨hsz, _, c00, c01, c02, c10, c11, c12, _⟩ := hB
  clear hu hv hx hy hz
  go_enter Tryz.func148, Tryz.ntmps148
  go_wp2_with fail
  rw [← hW0]
  clear hW0
  go_region_held3 (fun W => W.cell? ⟨w.heap.size, 0, none⟩ = some (.int .u64 t) ∧ W.cell? ⟨w.heap.size, 1, none⟩ = some (.slice a n n) ∧ W.cell? ⟨w.heap.size, 2, none⟩ = some (.bool b) ∧ W.cell? ⟨w.heap.size + 1, 0, none⟩ = some (.int .u64 s) ∧ W.cell? ⟨w.heap.size + 1, 1, none⟩ = some (.slice d m m) ∧ W.cell? ⟨w.heap.size + 1, 2, none⟩ = some (.bool b)) (first | exact ⟨c00, c01, c02, c10, c11, c12⟩ | exact ⟨(far3 (by omega)).trans c00, (far3 (by omega)).trans c01, (far3 (by omega)).trans c02, (far3 (by omega)).trans c10, (far3 (by omega)).trans c11, (far3 (by omega)).trans c12⟩) (first | (go_at_call 179; (with_reducible refine Calls.mono (OP.out _ ?hv) ?_); (case hv => first | exact ST.out.below | exact (ST.out.step (below_drew _)).below); rintro e w5 ⟨p5, v5, rfl, hv5, hb5⟩; replace hb5 := below_undrew hb5; have H5 := Lib.hid hv5; replace ST := Lib.hid (ST.out.step hb5); clear c00 c01 c02 c10 c11 c12; have c00 := ST.out.p0; have c01 := ST.out.p1; have c02 := ST.out.p2; have c10 := ST.out.q0; have c11 := ST.out.q1; have c12 := ST.out.q2; clear hv5 hb5) | (go_at_call 170; (with_reducible refine Calls.mono (signed_any p5 v5 b (x + y) w5 H5.out) ?_); rw [HZ.out]; rintro e w6 ⟨p6, v6, rfl, hv6, hb6⟩; have H6 := Lib.hid hv6; obtain ⟨s6, hs6⟩ : ∃ s6, s6 = decide (z < 0) := ⟨_, rfl⟩; rw [← hs6]; have HS6 := Lib.hid hs6; replace ST := Lib.hid (ST.out.step hb6); clear c00 c01 c02 c10 c11 c12; have c00 := ST.out.p0; have c01 := ST.out.p1; have c02 := ST.out.p2; have c10 := ST.out.q0; have c11 := ST.out.q1; have c12 := ST.out.q2; obtain ⟨r0, r1, r2, r3, r4, r5⟩ := ST.out.res; have hsz6 := ST.out.sz; obtain ⟨t9, a9, n9, rfl, rfl, -, -, -, -, -, -⟩ := hv6.form; clear hv6 hb6 hs6))
  all_goals
    go_wp2
    exact bodyPost_ret (v := .agg #[.int .u64 t9, .slice a9 n9 n9, .bool s6]) (by simp [results, Tryz.results148, go_sem, r0, r1, r2]) rfl (ST.out.fin H6.out HS6.out)
set_option maxHeartbeats 2000000 in
theorem plus_ge (p v q u : Value) (b c : Bool) (hc : c = !b) (x y : Int) (w : World) (hu : NatV w p v x) (hv : NatV w q u y) (hxy : y ≤ x) (z : Int) (hz : (if b = true then -(x - y) else x - y) = z) :
    Calls Tryz.prog 148 #[.agg #[p, v, .bool b], .agg #[q, u, .bool c]] w (GivesZ z w) := by
  have OP := Lib.hid (fun W (h : Below w.heap.size w W) => difference_any _ _ _ _ x y W (hu.below h) (hv.below h) hxy)
  have hcmp : ∃ k, 0 ≤ k ∧ ∀ W, Below w.heap.size w W → Calls Tryz.prog 177 #[.agg #[p, v], .agg #[q, u]] W (GivesI k W) := ⟨cmp3 x y, by unfold cmp3; rw [if_neg (by omega)]; split <;> omega, fun W hb => compare_any _ _ _ _ x y W (hu.below hb) (hv.below hb)⟩
  obtain ⟨k, hk, hcmp⟩ := hcmp
  have HC := Lib.hid hcmp
  have hbc : (b == c) = false := by subst hc; cases b <;> rfl
  obtain ⟨t, a, n, rfl, rfl, -, -, -, -, -, -⟩ := hu.form
  obtain ⟨s, d, m, rfl, rfl, -, -, -, -, -, -⟩ := hv.form
  have HZ := Lib.hid hz
  have HCB := Lib.hid hc
  have hB := Box3.new w (.int .u64 t) (.slice a n n) b (.int .u64 s) (.slice d m m) c 74
  obtain ⟨W0, hW0⟩ : ∃ W0, W0 = (((w.alloc (.cells #[.int .u64 t, .slice a n n, .bool b] 74)).alloc (.cells #[.int .u64 s, .slice d m m, .bool c] 74)).alloc (.cells #[.int .u64 0, .slice none 0 0, .bool false] 74)) := ⟨_, rfl⟩
  rw [← hW0] at hB
  have ST := Lib.hid hB
  obtain ⟨hsz, _, c00, c01, c02, c10, c11, c12, _⟩ := hB
  clear hu hv hz hcmp hc
  go_enter Tryz.func148, Tryz.ntmps148
  go_wp2_with fail
  rw [← hW0]
  clear hW0
  refine (HC.out _ ST.out.below).mono ?_
  rintro e w1 ⟨rfl, hb1⟩
  replace ST := Lib.hid (ST.out.step hb1)
  clear c00 c01 c02 c10 c11 c12
  have c00 := ST.out.p0
  have c01 := ST.out.p1
  have c02 := ST.out.p2
  have c10 := ST.out.q0
  have c11 := ST.out.q1
  have c12 := ST.out.q2
  clear hb1
  go_wp2_with fail
  go_region_held3 (fun W => W.cell? ⟨w.heap.size, 0, none⟩ = some (.int .u64 t) ∧ W.cell? ⟨w.heap.size, 1, none⟩ = some (.slice a n n) ∧ W.cell? ⟨w.heap.size, 2, none⟩ = some (.bool b) ∧ W.cell? ⟨w.heap.size + 1, 0, none⟩ = some (.int .u64 s) ∧ W.cell? ⟨w.heap.size + 1, 1, none⟩ = some (.slice d m m) ∧ W.cell? ⟨w.heap.size + 1, 2, none⟩ = some (.bool c)) (first | exact ⟨c00, c01, c02, c10, c11, c12⟩ | exact ⟨(far3 (by omega)).trans c00, (far3 (by omega)).trans c01, (far3 (by omega)).trans c02, (far3 (by omega)).trans c10, (far3 (by omega)).trans c11, (far3 (by omega)).trans c12⟩) (first | (go_at_call 180; (with_reducible refine Calls.mono (OP.out _ ?hv) ?_); (case hv => first | exact ST.out.below | exact (ST.out.step (below_drew _)).below); rintro e w5 ⟨p5, v5, rfl, hv5, hb5⟩; replace hb5 := below_undrew hb5; have H5 := Lib.hid hv5; replace ST := Lib.hid (ST.out.step hb5); clear c00 c01 c02 c10 c11 c12; have c00 := ST.out.p0; have c01 := ST.out.p1; have c02 := ST.out.p2; have c10 := ST.out.q0; have c11 := ST.out.q1; have c12 := ST.out.q2; clear hv5 hb5) | (go_at_call 170; (with_reducible refine Calls.mono (signed_any p5 v5 b (x - y) w5 H5.out) ?_); rw [HZ.out]; rintro e w6 ⟨p6, v6, rfl, hv6, hb6⟩; have H6 := Lib.hid hv6; obtain ⟨s6, hs6⟩ : ∃ s6, s6 = decide (z < 0) := ⟨_, rfl⟩; rw [← hs6]; have HS6 := Lib.hid hs6; replace ST := Lib.hid (ST.out.step hb6); clear c00 c01 c02 c10 c11 c12; have c00 := ST.out.p0; have c01 := ST.out.p1; have c02 := ST.out.p2; have c10 := ST.out.q0; have c11 := ST.out.q1; have c12 := ST.out.q2; obtain ⟨r0, r1, r2, r3, r4, r5⟩ := ST.out.res; have hsz6 := ST.out.sz; obtain ⟨t9, a9, n9, rfl, rfl, -, -, -, -, -, -⟩ := hv6.form; clear hv6 hb6 hs6))
  all_goals
    go_wp2
    exact bodyPost_ret (v := .agg #[.int .u64 t9, .slice a9 n9 n9, .bool s6]) (by simp [results, Tryz.results148, go_sem, r0, r1, r2]) rfl (ST.out.fin H6.out HS6.out)
set_option maxHeartbeats 2000000 in
theorem plus_lt (p v q u : Value) (b c : Bool) (hc : c = !b) (x y : Int) (w : World) (hu : NatV w p v x) (hv : NatV w q u y) (hxy : x < y) (z : Int) (hz : (if c = true then -(y - x) else y - x) = z) :
    Calls Tryz.prog 148 #[.agg #[p, v, .bool b], .agg #[q, u, .bool c]] w (GivesZ z w) := by
  have OP := Lib.hid (fun W (h : Below w.heap.size w W) => difference_any _ _ _ _ y x W (hv.below h) (hu.below h) (by omega))
  have hcmp : ∃ k, k < 0 ∧ ∀ W, Below w.heap.size w W → Calls Tryz.prog 177 #[.agg #[p, v], .agg #[q, u]] W (GivesI k W) := ⟨cmp3 x y, by unfold cmp3; rw [if_pos hxy]; omega, fun W hb => compare_any _ _ _ _ x y W (hu.below hb) (hv.below hb)⟩
  obtain ⟨k, hk, hcmp⟩ := hcmp
  have HC := Lib.hid hcmp
  have hbc : (b == c) = false := by subst hc; cases b <;> rfl
  obtain ⟨t, a, n, rfl, rfl, -, -, -, -, -, -⟩ := hu.form
  obtain ⟨s, d, m, rfl, rfl, -, -, -, -, -, -⟩ := hv.form
  have HZ := Lib.hid hz
  have HCB := Lib.hid hc
  have hB := Box3.new w (.int .u64 t) (.slice a n n) b (.int .u64 s) (.slice d m m) c 74
  obtain ⟨W0, hW0⟩ : ∃ W0, W0 = (((w.alloc (.cells #[.int .u64 t, .slice a n n, .bool b] 74)).alloc (.cells #[.int .u64 s, .slice d m m, .bool c] 74)).alloc (.cells #[.int .u64 0, .slice none 0 0, .bool false] 74)) := ⟨_, rfl⟩
  rw [← hW0] at hB
  have ST := Lib.hid hB
  obtain ⟨hsz, _, c00, c01, c02, c10, c11, c12, _⟩ := hB
  clear hu hv hz hcmp hc
  go_enter Tryz.func148, Tryz.ntmps148
  go_wp2_with fail
  rw [← hW0]
  clear hW0
  refine (HC.out _ ST.out.below).mono ?_
  rintro e w1 ⟨rfl, hb1⟩
  replace ST := Lib.hid (ST.out.step hb1)
  clear c00 c01 c02 c10 c11 c12
  have c00 := ST.out.p0
  have c01 := ST.out.p1
  have c02 := ST.out.p2
  have c10 := ST.out.q0
  have c11 := ST.out.q1
  have c12 := ST.out.q2
  clear hb1
  go_wp2_with fail
  go_region_held3 (fun W => W.cell? ⟨w.heap.size, 0, none⟩ = some (.int .u64 t) ∧ W.cell? ⟨w.heap.size, 1, none⟩ = some (.slice a n n) ∧ W.cell? ⟨w.heap.size, 2, none⟩ = some (.bool b) ∧ W.cell? ⟨w.heap.size + 1, 0, none⟩ = some (.int .u64 s) ∧ W.cell? ⟨w.heap.size + 1, 1, none⟩ = some (.slice d m m) ∧ W.cell? ⟨w.heap.size + 1, 2, none⟩ = some (.bool c)) (first | exact ⟨c00, c01, c02, c10, c11, c12⟩ | exact ⟨(far3 (by omega)).trans c00, (far3 (by omega)).trans c01, (far3 (by omega)).trans c02, (far3 (by omega)).trans c10, (far3 (by omega)).trans c11, (far3 (by omega)).trans c12⟩) (first | (go_at_call 180; (with_reducible refine Calls.mono (OP.out _ ?hv) ?_); (case hv => first | exact ST.out.below | exact (ST.out.step (below_drew _)).below); rintro e w5 ⟨p5, v5, rfl, hv5, hb5⟩; replace hb5 := below_undrew hb5; have H5 := Lib.hid hv5; replace ST := Lib.hid (ST.out.step hb5); clear c00 c01 c02 c10 c11 c12; have c00 := ST.out.p0; have c01 := ST.out.p1; have c02 := ST.out.p2; have c10 := ST.out.q0; have c11 := ST.out.q1; have c12 := ST.out.q2; clear hv5 hb5) | (go_at_call 170; (with_reducible refine Calls.mono (signed_any p5 v5 c (y - x) w5 H5.out) ?_); rw [HZ.out]; rintro e w6 ⟨p6, v6, rfl, hv6, hb6⟩; have H6 := Lib.hid hv6; obtain ⟨s6, hs6⟩ : ∃ s6, s6 = decide (z < 0) := ⟨_, rfl⟩; rw [← hs6]; have HS6 := Lib.hid hs6; replace ST := Lib.hid (ST.out.step hb6); clear c00 c01 c02 c10 c11 c12; have c00 := ST.out.p0; have c01 := ST.out.p1; have c02 := ST.out.p2; have c10 := ST.out.q0; have c11 := ST.out.q1; have c12 := ST.out.q2; obtain ⟨r0, r1, r2, r3, r4, r5⟩ := ST.out.res; have hsz6 := ST.out.sz; obtain ⟨t9, a9, n9, rfl, rfl, -, -, -, -, -, -⟩ := hv6.form; clear hv6 hb6 hs6))
  all_goals
    go_wp2
    exact bodyPost_ret (v := .agg #[.int .u64 t9, .slice a9 n9 n9, .bool s6]) (by simp [results, Tryz.results148, go_sem, r0, r1, r2]) rfl (ST.out.fin H6.out HS6.out)
theorem Plus_any (p v q u : Value) (b c : Bool) (x y : Int) (w : World) (hu : NatV w p v x.natAbs) (hv : NatV w q u y.natAbs) (hb : b = decide (x < 0)) (hc : c = decide (y < 0)) (hx : nl x.natAbs ≤ 50000) (hy : nl y.natAbs ≤ 50000) :
    Calls Tryz.prog 148 #[.agg #[p, v, .bool b], .agg #[q, u, .bool c]] w (GivesZ (x + y) w) := by
  by_cases hbc : b = c
  · subst hbc
    refine plus_eq p v q u b _ _ w hu hv hx hy _ ?_
    cases b with
    | true => have h1 := of_decide_eq_true hb.symm; have h2 := of_decide_eq_true hc.symm; rw [if_pos rfl]; omega
    | false => have h1 := of_decide_eq_false hb.symm; have h2 := of_decide_eq_false hc.symm; rw [if_neg (by decide)]; omega
  · have hcb : c = !b := by cases b <;> cases c <;> simp_all
    rcases Int.lt_or_le (x.natAbs : Int) y.natAbs with h | h
    · refine plus_lt p v q u b c hcb _ _ w hu hv h _ ?_
      subst hcb
      cases b with
      | true => have h1 := of_decide_eq_true hb.symm; have h2 := of_decide_eq_false hc.symm; simp only [Bool.not_true, Bool.false_eq_true, if_false]; omega
      | false => have h1 := of_decide_eq_false hb.symm; have h2 := of_decide_eq_true hc.symm; simp only [Bool.not_false, if_true]; omega
    · refine plus_ge p v q u b c hcb _ _ w hu hv h _ ?_
      subst hcb
      cases b with
      | true => have h1 := of_decide_eq_true hb.symm; have h2 := of_decide_eq_false hc.symm; rw [if_pos rfl]; omega
      | false => have h1 := of_decide_eq_false hb.symm; have h2 := of_decide_eq_true hc.symm; rw [if_neg (by decide)]; omega
end Go.Proofs.YtkhebidmfjbhaaaGreatDoor
namespace Go.Proofs.YtkhebidmfjbhaaaGreatDoor

/-- The product of the lowest i limbs of x with y. -/
def pz (x y : Int) (i : Nat) : Int := (x % bp i) * y
theorem pz_zero (x y : Int) : pz x y 0 = 0 := by unfold pz; rw [mod_zero, Int.zero_mul]
theorem pz_bd (x : Int) {y : Int} {m : Nat} (i : Nat) (h0 : 0 ≤ y) (h1 : y < bp m) : 0 ≤ pz x y i ∧ pz x y i < bp (i + m) :=
  ⟨Int.mul_nonneg (mod_bd x i).1 h0, mul_lt_bp (mod_bd x i).1 h0 (mod_bd x i).2 h1⟩
theorem pz_succ (x y : Int) (i : Nat) : pz x y (i + 1) = pz x y i + bp i * (lz x i * y) := by
  unfold pz; rw [mod_succ, Int.add_mul, Int.mul_assoc]
theorem pz_end {x : Int} (y : Int) {n : Nat} (h0 : 0 ≤ x) (h1 : x < bp n) : pz x y n = x * y := by unfold pz; rw [mod_self h0 h1]
theorem pz_div (x y : Int) (i : Nat) : pz x y (i + 1) / bp i = 1 * (pz x y i / bp i) + lz x i * y := by rw [pz_succ, add_mul_div]; omega
/-- The carry at place i + j. -/
def pc (x y : Int) (i j : Nat) : Int := mx 1 (lz x i) (pz x y i / bp i) y j
theorem pc_zero (x y : Int) (i : Nat) : pc x y i 0 = 0 := mx_zero _ _ _ _
theorem pc_bd (x y : Int) (i j : Nat) : 0 ≤ pc x y i j ∧ pc x y i j ≤ 1000000000 := by
  have h := lz_bd x i
  have := mx_le (A := 1) (C := lz x i) (pz x y i / bp i) y j (by omega) h.1
  unfold pc
  omega
theorem pc_step (x y : Int) (i j : Nat) : (pc x y i j + (lz (pz x y i) (i + j) + lz x i * lz y j)) % 1000000000 = lz (pz x y (i + 1)) (i + j) ∧ (pc x y i j + (lz (pz x y i) (i + j) + lz x i * lz y j)) / 1000000000 = pc x y i (j + 1) := by
  have h := mx_step 1 (lz x i) (pz x y i / bp i) y j
  rw [lz_shift, ← pz_div, lz_shift, Int.one_mul] at h
  exact h
theorem pc_last (x : Int) {y : Int} {m : Nat} (i : Nat) (h0 : 0 ≤ y) (h1 : y < bp m) : pc x y i m = lz (pz x y (i + 1)) (i + m) := by
  obtain ⟨b0, b1⟩ := pz_bd x i h0 h1
  obtain ⟨d0, d1⟩ := pz_bd x (i + 1) h0 h1
  have e1 : 0 ≤ pz x y i / bp i := Int.ediv_nonneg b0 (Int.le_of_lt (bp_pos i))
  have e2 : pz x y i / bp i < bp m := by
    apply Int.ediv_lt_of_lt_mul (bp_pos i)
    rw [bp_add, Int.mul_comm] at b1
    exact b1
  unfold pc
  rw [mx_end e1 e2 h0 h1, ← pz_div, ← div_add]
  have e3 : 0 ≤ pz x y (i + 1) / bp (i + m) := Int.ediv_nonneg d0 (Int.le_of_lt (bp_pos _))
  have e4 : pz x y (i + 1) / bp (i + m) < 1000000000 := by
    apply Int.ediv_lt_of_lt_mul (bp_pos _)
    rw [show i + 1 + m = (i + m) + 1 by omega, bp_succ] at d1
    exact d1
  unfold lz
  rw [Int.emod_eq_of_lt e3 e4]
theorem pz_high (x : Int) {y : Int} {m : Nat} (i p : Nat) (h0 : 0 ≤ y) (h1 : y < bp m) (hp : i + m < p) : lz (pz x y i) p = lz (pz x y (i + 1)) p := by
  obtain ⟨b0, b1⟩ := pz_bd x i h0 h1
  obtain ⟨d0, d1⟩ := pz_bd x (i + 1) h0 h1
  rw [lz_high b0 b1 (by omega), lz_high d0 d1 (by omega)]
theorem pz_low (x y : Int) {i p : Nat} (hp : p < i) : lz (pz x y (i + 1)) p = lz (pz x y i) p := by rw [pz_succ, lz_low _ _ hp]
theorem limb_mul {a b : Int} (ha : 0 ≤ a ∧ a < 1000000000) (hb : 0 ≤ b ∧ b < 1000000000) : 0 ≤ a * b ∧ a * b ≤ 999999998000000001 := by
  refine ⟨Int.mul_nonneg ha.1 hb.1, ?_⟩
  have h1 := Int.mul_le_mul_of_nonneg_right (show a ≤ 999999999 by omega) hb.1
  omega
end Go.Proofs.YtkhebidmfjbhaaaGreatDoor
namespace Go.Proofs.YtkhebidmfjbhaaaGreatDoor

/-- What is known of a guessed half quotient q with the rest r: N = u B + t, Y = v1 B + v0, B two to the power of 32. -/
structure Half (u t v1 v0 q r : Int) : Prop where
  rest : q * v1 + r = u
  r0 : 0 ≤ r
  q0 : 0 ≤ q
  hi : q ≤ 4294967297
  ge : (u * 4294967296 + t) / (v1 * 4294967296 + v0) ≤ q

structure HalfIn (u t v1 v0 : Int) : Prop where
  u0 : 0 ≤ u
  uY : u < v1 * 4294967296 + v0
  t0 : 0 ≤ t
  t1 : t < 4294967296
  v1l : 2147483648 ≤ v1
  v1h : v1 < 4294967296
  v0l : 0 ≤ v0
  v0h : v0 < 4294967296

theorem half_pos {u t v1 v0 : Int} (h : HalfIn u t v1 v0) : 0 < v1 * 4294967296 + v0 := by have := h.v1l; have := h.v0l; omega
theorem half_start {u t v1 v0 : Int} (h : HalfIn u t v1 v0) : Half u t v1 v0 (u / v1) (u - u / v1 * v1) := by
  have hp := half_pos h
  have e := Int.emod_add_mul_ediv u v1
  have h1 := h.v1l
  have h2 := Int.emod_nonneg u (show v1 ≠ 0 by omega)
  have q0 := Int.ediv_nonneg h.u0 (show 0 ≤ v1 by omega)
  rw [Int.mul_comm v1] at e
  refine ⟨by omega, by omega, q0, ?_, ?_⟩
  · have h3 := h.uY
    have h4 := h.v0h
    have : u / v1 < 4294967298 := by
      apply Int.ediv_lt_of_lt_mul (by omega)
      omega
    omega
  · have h5 := Int.emod_lt_of_pos u (show 0 < v1 by omega)
    have : (u * 4294967296 + t) / (v1 * 4294967296 + v0) < u / v1 + 1 := by
      apply Int.ediv_lt_of_lt_mul hp
      have g1 : (u / v1 + 1) * (v1 * 4294967296 + v0) = (u / v1 * v1 + v1) * 4294967296 + (u / v1 + 1) * v0 := by
        rw [Int.mul_add, ← Int.mul_assoc, Int.add_mul (u / v1) 1 v1, Int.one_mul]
      have g2 := Int.mul_nonneg (show 0 ≤ u / v1 + 1 by omega) h.v0l
      have := h.t1
      omega
    omega
theorem half_rest_lt {u v1 : Int} (h1 : 0 < v1) (h2 : v1 < 4294967296) : u - u / v1 * v1 < 4294967296 := by
  have e := Int.emod_add_mul_ediv u v1
  have := Int.emod_lt_of_pos u h1
  rw [Int.mul_comm v1] at e
  omega
/-- The guess is too great. -/
theorem half_less {u t v1 v0 q r : Int} (h : HalfIn u t v1 v0) (g : Half u t v1 v0 q r) (hq : 4294967296 ≤ q ∨ r * 4294967296 + t < q * v0) : Half u t v1 v0 (q - 1) (r + v1) := by
  have hp := half_pos h
  have e1 := g.rest
  have key : (u * 4294967296 + t) / (v1 * 4294967296 + v0) < q := by
    apply Int.ediv_lt_of_lt_mul hp
    rcases hq with hq | hq
    · have h1 := Int.mul_le_mul_of_nonneg_right hq (Int.le_of_lt hp)
      have := h.uY; have := h.t1
      omega
    · have g1 : q * (v1 * 4294967296 + v0) = (q * v1) * 4294967296 + q * v0 := by rw [Int.mul_add, ← Int.mul_assoc]
      omega
  have hn := Int.ediv_nonneg (show 0 ≤ u * 4294967296 + t by have := h.u0; have := h.t0; omega) (Int.le_of_lt hp)
  refine ⟨?_, by have := g.r0; have := h.v1l; omega, by omega, by have := g.hi; omega, by omega⟩
  rw [Int.sub_mul, Int.one_mul]; omega
/-- The guess is right. -/
theorem half_right {u t v1 v0 q r : Int} (h : HalfIn u t v1 v0) (g : Half u t v1 v0 q r) (hq : q * v0 ≤ r * 4294967296 + t) : q = (u * 4294967296 + t) / (v1 * 4294967296 + v0) := by
  have hp := half_pos h
  have e1 := g.rest
  have : q ≤ (u * 4294967296 + t) / (v1 * 4294967296 + v0) := by
    apply Int.le_ediv_of_mul_le hp
    have g1 : q * (v1 * 4294967296 + v0) = (q * v1) * 4294967296 + q * v0 := by rw [Int.mul_add, ← Int.mul_assoc]
    omega
  have := g.ge
  omega
/-- Behind a step with a rest of more than half a word the guess is right. -/
theorem half_over {u t v1 v0 q r : Int} (h : HalfIn u t v1 v0) (g : Half u t v1 v0 q r) (hq : q ≤ 4294967296) (hr : 4294967296 ≤ r) : q = (u * 4294967296 + t) / (v1 * 4294967296 + v0) := by
  apply half_right h g
  have h1 := Int.mul_le_mul_of_nonneg_right hq h.v0l
  have := h.v0h; have := h.t0
  omega
/-- The rest behind the first half. -/
theorem half_next {u t v1 v0 q : Int} (h : HalfIn u t v1 v0) (hq : q = (u * 4294967296 + t) / (v1 * 4294967296 + v0)) : 0 ≤ u * 4294967296 + t - q * (v1 * 4294967296 + v0) ∧ u * 4294967296 + t - q * (v1 * 4294967296 + v0) < v1 * 4294967296 + v0 ∧ 0 ≤ q ∧ q < 4294967296 := by
  have hp := half_pos h
  have e := Int.emod_add_mul_ediv (u * 4294967296 + t) (v1 * 4294967296 + v0)
  have h1 := Int.emod_nonneg (u * 4294967296 + t) (show v1 * 4294967296 + v0 ≠ 0 by omega)
  have h2 := Int.emod_lt_of_pos (u * 4294967296 + t) hp
  rw [← hq, Int.mul_comm (v1 * 4294967296 + v0) q] at e
  refine ⟨by omega, by omega, ?_, ?_⟩
  · rw [hq]; exact Int.ediv_nonneg (by have := h.u0; have := h.t0; omega) (Int.le_of_lt hp)
  · rw [hq]
    apply Int.ediv_lt_of_lt_mul hp
    have := h.uY; have := h.t1
    omega
/-- Both halves make the quotient. -/
theorem half_both {u t1 t0 v1 v0 q1 q0 : Int} (h : HalfIn u t1 v1 v0)
    (hq0 : q0 = ((u * 4294967296 + t1 - q1 * (v1 * 4294967296 + v0)) * 4294967296 + t0) / (v1 * 4294967296 + v0)) : q1 * 4294967296 + q0 = (u * 18446744073709551616 + (t1 * 4294967296 + t0)) / (v1 * 4294967296 + v0) := by
  have hp := half_pos h
  have e : u * 18446744073709551616 + (t1 * 4294967296 + t0) = ((u * 4294967296 + t1 - q1 * (v1 * 4294967296 + v0)) * 4294967296 + t0) + (v1 * 4294967296 + v0) * (q1 * 4294967296) := by
    rw [← Int.mul_assoc, Int.mul_comm (v1 * 4294967296 + v0) q1]
    generalize q1 * (v1 * 4294967296 + v0) = m
    omega
  rw [e, Int.add_mul_ediv_left _ _ (by omega), ← hq0]
  omega
end Go.Proofs.YtkhebidmfjbhaaaGreatDoor
namespace Go.Proofs.YtkhebidmfjbhaaaGreatDoor
open Go.RowKit

def GivesQ (q r : Int) (w : World) (e : Ending) (w' : World) : Prop := ∃ q' r', e = .returned (.tuple #[.int .u64 q', .int .u64 r']) ∧ q' = q ∧ r' = r ∧ w = w'
theorem sub_one_le {q : Int} (h : q ≤ 4294967297) : q - 1 ≤ 4294967296 := by omega
theorem wrap_bd (z : Int) : 0 ≤ IntKind.u64.wrap z ∧ IntKind.u64.wrap z ≤ 18446744073709551615 := by rw [IntKind.wrap_u64]; omega
theorem half_mul {a b : Int} (a0 : 0 ≤ a) (a1 : a ≤ 4294967296) (b0 : 0 ≤ b) (b1 : b < 4294967296) : 0 ≤ a * b ∧ a * b ≤ 18446744073709551615 := by
  refine ⟨Int.mul_nonneg a0 b0, ?_⟩
  have h1 := Int.mul_le_mul_of_nonneg_right a1 b0
  omega
set_option maxHeartbeats 4000000 in
set_option maxRecDepth 100000 in
theorem div64_core (hi lo y Y L A C u v1 v0 t1 t0 : Int) (k : Nat) (hk : (Lib.bitLen y.toNat) + k = 64) (hk1 : 1 ≤ k) (hk2 : k ≤ 63) (h0 : 0 < hi) (h1 : hi < y) (hy : y ≤ 18446744073709551615)
    (hE1 : y * 2 ^ k = Y) (hE2 : IntKind.u64.wrap (lo * 2 ^ k) = L) (hE3 : hi * 2 ^ k = A) (hE4 : lo / 2 ^ (64 - k) = C) (hE5 : bits .or .u64 A C = u)
    (hE6 : bits .and .u64 Y 4294967295 = v0) (hE7 : Y / 4294967296 = v1) (hE8 : L / 4294967296 = t1) (hE9 : bits .and .u64 L 4294967295 = t0)
    (hY0 : 0 ≤ Y) (hY1 : Y ≤ 18446744073709551615) (hA0 : 0 ≤ A) (hA1 : A ≤ 18446744073709551615) (hYv : Y = v1 * 4294967296 + v0) (hH : HalfIn u t1 v1 v0) (ht0 : 0 ≤ t0) (ht1 : t0 < 4294967296) :
    ∃ r, ∀ w, Calls Tryz.prog 239 #[.int .u64 hi, .int .u64 lo, .int .u64 y] w (GivesQ ((u * 18446744073709551616 + (t1 * 4294967296 + t0)) / (v1 * 4294967296 + v0)) r w) := by
  have hz := fun w => Tryz.bits_LeadingZeros64 y w (by omega) hy
  rw [show (64 : Int) - (Lib.bitLen y.toNat : Int) = (k : Int) by omega] at hz
  have HZ := Lib.hid hz
  have HH := Lib.hid hH
  have hH' := hH
  obtain ⟨H1, H2, H3, H4, H5, H6, H7, H8⟩ := hH
  have hs0 := half_start hH'
  obtain ⟨hs1, hs2, hs3, hs4⟩ : u / v1 ≤ 4294967297 ∧ 0 ≤ u / v1 ∧ 0 ≤ u - u / v1 * v1 ∧ u - u / v1 * v1 < 4294967296 := ⟨hs0.hi, hs0.q0, hs0.r0, half_rest_lt (by omega) (by omega)⟩
  obtain ⟨hs5, hs6⟩ : 0 ≤ u / v1 * v1 ∧ u / v1 * v1 ≤ 18446744073709551615 := ⟨Int.mul_nonneg hs2 (by omega), by omega⟩
  obtain ⟨Q1, hQ1⟩ : ∃ Q1, (u * 4294967296 + t1) / (v1 * 4294967296 + v0) = Q1 := ⟨_, rfl⟩
  obtain ⟨n1, n2, n3, n4⟩ := half_next hH' hQ1.symm
  obtain ⟨u2, hu2⟩ : ∃ u2, u * 4294967296 + t1 - Q1 * (v1 * 4294967296 + v0) = u2 := ⟨_, rfl⟩
  rw [hu2] at n1 n2
  have hH2 : HalfIn u2 t0 v1 v0 := ⟨n1, n2, ht0, ht1, H5, H6, H7, H8⟩
  obtain ⟨Q2, hQ2⟩ : ∃ Q2, (u2 * 4294967296 + t0) / (v1 * 4294967296 + v0) = Q2 := ⟨_, rfl⟩
  obtain ⟨_, _, n5, n6⟩ := half_next hH2 hQ2.symm
  have hQ := half_both (q1 := Q1) (q0 := Q2) (t0 := t0) hH' (by rw [hu2, hQ2])
  have hE7 : IntKind.u64.wrap (IntKind.u64.wrap (IntKind.u64.wrap (u * 4294967296) + t1) - IntKind.u64.wrap (Q1 * Y)) = u2 := by
    rw [hYv]
    simp only [IntKind.wrap_u64]
    generalize Q1 * (v1 * 4294967296 + v0) = m at hu2
    omega
  have HQ := Lib.hid hQ
  have HQ1 := Lib.hid hQ1
  have HQ2 := Lib.hid hQ2
  have HH2 := Lib.hid hH2
  have HE7 := Lib.hid hE7
  have hs0b := half_start hH2
  obtain ⟨hs1b, hs2b, hs3b, hs4b⟩ : u2 / v1 ≤ 4294967297 ∧ 0 ≤ u2 / v1 ∧ 0 ≤ u2 - u2 / v1 * v1 ∧ u2 - u2 / v1 * v1 < 4294967296 := ⟨hs0b.hi, hs0b.q0, hs0b.r0, half_rest_lt (by omega) (by omega)⟩
  obtain ⟨hs5b, hs6b⟩ : 0 ≤ u2 / v1 * v1 ∧ u2 / v1 * v1 ≤ 18446744073709551615 := ⟨Int.mul_nonneg hs2b (by omega), by omega⟩
  clear hz hk hs0 hs0b hH' hH2 hQ hQ1 hQ2 hu2 hE7 hYv
  refine ⟨IntKind.u64.wrap (IntKind.u64.wrap (IntKind.u64.wrap (u2 * 4294967296) + t0) - IntKind.u64.wrap (Q2 * Y)) / 2 ^ k, fun w => ?_⟩
  go_enter Tryz.func239, Tryz.ntmps239
  go_upto_region 17 with (go_at_call 240; refine (HZ.out _).mono ?_; rintro e w' ⟨rfl, rfl⟩)
  go_loop [15, 16] (fun a b => ∃ q r : Int, Hid (Half u t1 v1 v0 q r) ∧ q ≤ 4294967297 ∧ 0 ≤ q ∧ 0 ≤ r ∧ r < 4294967296 ∧ a = .int .u64 q ∧ b = .int .u64 r) (fun a _ => (intOf a).toNat)
  case atStart => exact ⟨_, _, half_start HH.out, hs1, hs2, hs3, hs4, rfl, rfl⟩
  case round =>
    obtain ⟨q, r, HG, hq1, hq2, hr1, hr2, rfl, rfl⟩ := hrel
    by_cases hB : 4294967296 ≤ q
    · have HN := Lib.hid (half_less HH.out HG.out (.inl hB))
      have hqp := HN.out.q0
      by_cases hb : 4294967296 ≤ r + v1
      · have hq := half_over HH.out HN.out (sub_one_le hq1) hb
        rw [HQ1.out] at hq
        have hE7 := HE7.out
        clear HG HN
        go_wp2
        go_loop [18, 16] (fun a b => ∃ q r : Int, Hid (Half u2 t0 v1 v0 q r) ∧ q ≤ 4294967297 ∧ 0 ≤ q ∧ 0 ≤ r ∧ r < 4294967296 ∧ a = .int .u64 q ∧ b = .int .u64 r) (fun a _ => (intOf a).toNat)
        case atStart => exact ⟨_, _, half_start HH2.out, hs1b, hs2b, hs3b, hs4b, rfl, rfl⟩
        case round =>
          obtain ⟨q, r, HG, hq1, hq2, hr1, hr2, rfl, rfl⟩ := hrel
          by_cases hB : 4294967296 ≤ q
          · have HN := Lib.hid (half_less HH2.out HG.out (.inl hB))
            have hqp := HN.out.q0
            by_cases hb : 4294967296 ≤ r + v1
            · have hq := half_over HH2.out HN.out (sub_one_le hq1) hb
              rw [HQ2.out] at hq
              clear HH HH2 HZ HE7 HN HG hs1 hs2 hs3 hs4 hs5 hs6 hs1b hs2b hs3b hs4b hs5b hs6b
              go_wp2
              go_ret2
              exact ⟨_, _, rfl, HQ.out, rfl, rfl⟩
            · go_wp2
              go_round
              case rel => exact ⟨_, _, HN.out, HN.out.hi, HN.out.q0, HN.out.r0, by omega, rfl, rfl⟩
              case measure => simp [intOf]; omega
          · obtain ⟨m0, m1⟩ : 0 ≤ q * v0 ∧ q * v0 ≤ 18446744073709551615 := half_mul hq2 (by omega) H7 H8
            by_cases hc : r * 4294967296 + t0 < q * v0
            · have HN := Lib.hid (half_less HH2.out HG.out (.inr hc))
              have hqp := HN.out.q0
              by_cases hb : 4294967296 ≤ r + v1
              · have hq := half_over HH2.out HN.out (sub_one_le hq1) hb
                rw [HQ2.out] at hq
                clear HH HH2 HZ HE7 HN HG hs1 hs2 hs3 hs4 hs5 hs6 hs1b hs2b hs3b hs4b hs5b hs6b
                go_wp2
                go_ret2
                exact ⟨_, _, rfl, HQ.out, rfl, rfl⟩
              · go_wp2
                go_round
                case rel => exact ⟨_, _, HN.out, HN.out.hi, HN.out.q0, HN.out.r0, by omega, rfl, rfl⟩
                case measure => simp [intOf]; omega
            · have hq := half_right HH2.out HG.out (Int.not_lt.1 hc)
              rw [HQ2.out] at hq
              subst hq
              clear HH HH2 HZ HE7 HG hs1 hs2 hs3 hs4 hs5 hs6 hs1b hs2b hs3b hs4b hs5b hs6b
              go_wp2
              go_ret2
              exact ⟨_, _, rfl, HQ.out, rfl, rfl⟩
      · go_wp2
        go_round
        case rel => exact ⟨_, _, HN.out, HN.out.hi, HN.out.q0, HN.out.r0, by omega, rfl, rfl⟩
        case measure => simp [intOf]; omega
    · obtain ⟨m0, m1⟩ : 0 ≤ q * v0 ∧ q * v0 ≤ 18446744073709551615 := half_mul hq2 (by omega) H7 H8
      by_cases hc : r * 4294967296 + t1 < q * v0
      · have HN := Lib.hid (half_less HH.out HG.out (.inr hc))
        have hqp := HN.out.q0
        by_cases hb : 4294967296 ≤ r + v1
        · have hq := half_over HH.out HN.out (sub_one_le hq1) hb
          rw [HQ1.out] at hq
          have hE7 := HE7.out
          clear HG HN
          go_wp2
          go_loop [18, 16] (fun a b => ∃ q r : Int, Hid (Half u2 t0 v1 v0 q r) ∧ q ≤ 4294967297 ∧ 0 ≤ q ∧ 0 ≤ r ∧ r < 4294967296 ∧ a = .int .u64 q ∧ b = .int .u64 r) (fun a _ => (intOf a).toNat)
          case atStart => exact ⟨_, _, half_start HH2.out, hs1b, hs2b, hs3b, hs4b, rfl, rfl⟩
          case round =>
            obtain ⟨q, r, HG, hq1, hq2, hr1, hr2, rfl, rfl⟩ := hrel
            by_cases hB : 4294967296 ≤ q
            · have HN := Lib.hid (half_less HH2.out HG.out (.inl hB))
              have hqp := HN.out.q0
              by_cases hb : 4294967296 ≤ r + v1
              · have hq := half_over HH2.out HN.out (sub_one_le hq1) hb
                rw [HQ2.out] at hq
                clear HH HH2 HZ HE7 HN HG hs1 hs2 hs3 hs4 hs5 hs6 hs1b hs2b hs3b hs4b hs5b hs6b
                go_wp2
                go_ret2
                exact ⟨_, _, rfl, HQ.out, rfl, rfl⟩
              · go_wp2
                go_round
                case rel => exact ⟨_, _, HN.out, HN.out.hi, HN.out.q0, HN.out.r0, by omega, rfl, rfl⟩
                case measure => simp [intOf]; omega
            · obtain ⟨m0, m1⟩ : 0 ≤ q * v0 ∧ q * v0 ≤ 18446744073709551615 := half_mul hq2 (by omega) H7 H8
              by_cases hc : r * 4294967296 + t0 < q * v0
              · have HN := Lib.hid (half_less HH2.out HG.out (.inr hc))
                have hqp := HN.out.q0
                by_cases hb : 4294967296 ≤ r + v1
                · have hq := half_over HH2.out HN.out (sub_one_le hq1) hb
                  rw [HQ2.out] at hq
                  clear HH HH2 HZ HE7 HN HG hs1 hs2 hs3 hs4 hs5 hs6 hs1b hs2b hs3b hs4b hs5b hs6b
                  go_wp2
                  go_ret2
                  exact ⟨_, _, rfl, HQ.out, rfl, rfl⟩
                · go_wp2
                  go_round
                  case rel => exact ⟨_, _, HN.out, HN.out.hi, HN.out.q0, HN.out.r0, by omega, rfl, rfl⟩
                  case measure => simp [intOf]; omega
              · have hq := half_right HH2.out HG.out (Int.not_lt.1 hc)
                rw [HQ2.out] at hq
                subst hq
                clear HH HH2 HZ HE7 HG hs1 hs2 hs3 hs4 hs5 hs6 hs1b hs2b hs3b hs4b hs5b hs6b
                go_wp2
                go_ret2
                exact ⟨_, _, rfl, HQ.out, rfl, rfl⟩
        · go_wp2
          go_round
          case rel => exact ⟨_, _, HN.out, HN.out.hi, HN.out.q0, HN.out.r0, by omega, rfl, rfl⟩
          case measure => simp [intOf]; omega
      · have hq := half_right HH.out HG.out (Int.not_lt.1 hc)
        rw [HQ1.out] at hq
        subst hq
        have hE7 := HE7.out
        clear HG
        go_wp2
        go_loop [18, 16] (fun a b => ∃ q r : Int, Hid (Half u2 t0 v1 v0 q r) ∧ q ≤ 4294967297 ∧ 0 ≤ q ∧ 0 ≤ r ∧ r < 4294967296 ∧ a = .int .u64 q ∧ b = .int .u64 r) (fun a _ => (intOf a).toNat)
        case atStart => exact ⟨_, _, half_start HH2.out, hs1b, hs2b, hs3b, hs4b, rfl, rfl⟩
        case round =>
          obtain ⟨q, r, HG, hq1, hq2, hr1, hr2, rfl, rfl⟩ := hrel
          by_cases hB : 4294967296 ≤ q
          · have HN := Lib.hid (half_less HH2.out HG.out (.inl hB))
            have hqp := HN.out.q0
            by_cases hb : 4294967296 ≤ r + v1
            · have hq := half_over HH2.out HN.out (sub_one_le hq1) hb
              rw [HQ2.out] at hq
              clear HH HH2 HZ HE7 HN HG hs1 hs2 hs3 hs4 hs5 hs6 hs1b hs2b hs3b hs4b hs5b hs6b
              go_wp2
              go_ret2
              exact ⟨_, _, rfl, HQ.out, rfl, rfl⟩
            · go_wp2
              go_round
              case rel => exact ⟨_, _, HN.out, HN.out.hi, HN.out.q0, HN.out.r0, by omega, rfl, rfl⟩
              case measure => simp [intOf]; omega
          · obtain ⟨m0, m1⟩ : 0 ≤ q * v0 ∧ q * v0 ≤ 18446744073709551615 := half_mul hq2 (by omega) H7 H8
            by_cases hc : r * 4294967296 + t0 < q * v0
            · have HN := Lib.hid (half_less HH2.out HG.out (.inr hc))
              have hqp := HN.out.q0
              by_cases hb : 4294967296 ≤ r + v1
              · have hq := half_over HH2.out HN.out (sub_one_le hq1) hb
                rw [HQ2.out] at hq
                clear HH HH2 HZ HE7 HN HG hs1 hs2 hs3 hs4 hs5 hs6 hs1b hs2b hs3b hs4b hs5b hs6b
                go_wp2
                go_ret2
                exact ⟨_, _, rfl, HQ.out, rfl, rfl⟩
              · go_wp2
                go_round
                case rel => exact ⟨_, _, HN.out, HN.out.hi, HN.out.q0, HN.out.r0, by omega, rfl, rfl⟩
                case measure => simp [intOf]; omega
            · have hq := half_right HH2.out HG.out (Int.not_lt.1 hc)
              rw [HQ2.out] at hq
              subst hq
              clear HH HH2 HZ HE7 HG hs1 hs2 hs3 hs4 hs5 hs6 hs1b hs2b hs3b hs4b hs5b hs6b
              go_wp2
              go_ret2
              exact ⟨_, _, rfl, HQ.out, rfl, rfl⟩

theorem bitLen_63 {y : Int} (h0 : 0 < y) (h1 : y ≤ 9223372036854775807) : 1 ≤ Lib.bitLen y.toNat ∧ Lib.bitLen y.toNat ≤ 63 ∧ (2 : Int) ^ (Lib.bitLen y.toNat - 1) ≤ y ∧ y < 2 ^ Lib.bitLen y.toNat := by
  obtain ⟨n, rfl⟩ := Int.eq_ofNat_of_zero_le (Int.le_of_lt h0)
  rw [Int.toNat_natCast]
  obtain ⟨a, b, c⟩ := Lib.bitLenAux_bounds 64 n (by omega) (by omega)
  change 1 ≤ Lib.bitLen n at a
  change 2 ^ (Lib.bitLen n - 1) ≤ n at b
  change n < 2 ^ Lib.bitLen n at c
  have e : ∀ k : Nat, ((2 ^ k : Nat) : Int) = (2 : Int) ^ k := fun k => by simp
  refine ⟨a, ?_, by rw [← e]; omega, by rw [← e]; omega⟩
  rcases Nat.lt_or_ge 63 (Lib.bitLen n) with h | h
  · have := Nat.pow_le_pow_right (show 0 < 2 by omega) (show 63 ≤ Lib.bitLen n - 1 by omega)
    have e63 : (2 : Nat) ^ 63 = 9223372036854775808 := by decide
    omega
  · exact h
theorem or_add {A C : Nat} (k : Nat) (hC : C < 2 ^ k) (hA : A * 2 ^ k + C < 18446744073709551616) : bits .or .u64 ((A * 2 ^ k : Nat) : Int) (C : Int) = ((A * 2 ^ k + C : Nat) : Int) := by
  rw [bits_or_u64_nat _ _ (by omega) (by omega), Nat.mul_comm, ← Nat.two_pow_add_eq_or_of_lt hC]
theorem and_mask {a : Int} (h0 : 0 ≤ a) (h1 : a ≤ 18446744073709551615) : bits .and .u64 a 4294967295 = a % 4294967296 := by
  obtain ⟨n, rfl⟩ := Int.eq_ofNat_of_zero_le h0
  have h := bits_and_u64_nat n 4294967295 (by omega) (by omega)
  have e : n &&& 4294967295 = n % 4294967296 := Nat.and_two_pow_sub_one_eq_mod n 32
  rw [e] at h
  rw [show ((n : Int) % 4294967296) = ((n % 4294967296 : Nat) : Int) by omega, ← h]
  rfl

theorem div64_pos (hi lo y : Int) (h0 : 0 < hi) (h1 : hi < y) (h2 : 0 ≤ lo) (h3 : lo ≤ 18446744073709551615) (h4 : y ≤ 9223372036854775807) :
    ∃ r, ∀ w, Calls Tryz.prog 239 #[.int .u64 hi, .int .u64 lo, .int .u64 y] w (GivesQ ((hi * 18446744073709551616 + lo) / y) r w) := by
  obtain ⟨b1, b2, b3, b4⟩ := bitLen_63 (show 0 < y by omega) h4
  obtain ⟨k, hk⟩ : ∃ k, Lib.bitLen y.toNat + k = 64 := ⟨64 - Lib.bitLen y.toNat, by omega⟩
  generalize hL : Lib.bitLen y.toNat = L at *
  have hp : ∀ j : Nat, 0 < (2 : Int) ^ j := fun j => Int.pow_pos (by omega)
  have e63 : (2 : Int) ^ (L - 1) * 2 ^ k = 9223372036854775808 := by rw [← Int.pow_add, show L - 1 + k = 63 by omega]; decide
  have e64 : (2 : Int) ^ L * 2 ^ k = 18446744073709551616 := by rw [← Int.pow_add, hk]; decide
  have e64' : (2 : Int) ^ (64 - k) * 2 ^ k = 18446744073709551616 := by rw [show 64 - k = L by omega]; exact e64
  have y1 := Int.mul_le_mul_of_nonneg_right b3 (Int.le_of_lt (hp k))
  have y2 := Int.mul_lt_mul_of_pos_right b4 (hp k)
  have a1 := Int.mul_lt_mul_of_pos_right h1 (hp k)
  have a0 := Int.mul_pos h0 (hp k)
  rw [e63] at y1
  rw [e64] at y2
  have c0 := Int.ediv_nonneg h2 (Int.le_of_lt (hp (64 - k)))
  have c1 : lo / 2 ^ (64 - k) < 2 ^ k := by
    apply Int.ediv_lt_of_lt_mul (hp _)
    rw [Int.mul_comm, e64']; omega
  have hor : bits .or .u64 (hi * 2 ^ k) (lo / 2 ^ (64 - k)) = hi * 2 ^ k + lo / 2 ^ (64 - k) := by
    obtain ⟨H, rfl⟩ := Int.eq_ofNat_of_zero_le (Int.le_of_lt h0)
    obtain ⟨C, hC⟩ := Int.eq_ofNat_of_zero_le c0
    rw [hC] at c1 ⊢
    have g1 : ((H : Int) * 2 ^ k) = ((H * 2 ^ k : Nat) : Int) := by simp
    have g2 : C < 2 ^ k := by
      have : ((2 ^ k : Nat) : Int) = (2 : Int) ^ k := by simp
      omega
    have g3 : (H : Int) + 1 ≤ y := by omega
    have g4 := Int.mul_le_mul_of_nonneg_right g3 (Int.le_of_lt (hp k))
    rw [Int.add_mul, Int.one_mul] at g4
    rw [g1] at g4 ⊢
    rw [or_add k g2 (by omega)]
    omega
  have u1 : hi * 2 ^ k + lo / 2 ^ (64 - k) < y * 2 ^ k := by
    have g3 : hi + 1 ≤ y := by omega
    have g4 := Int.mul_le_mul_of_nonneg_right g3 (Int.le_of_lt (hp k))
    rw [Int.add_mul, Int.one_mul] at g4
    omega
  have hU : (hi * 2 ^ k + lo / 2 ^ (64 - k)) * 18446744073709551616 + IntKind.u64.wrap (lo * 2 ^ k) = (hi * 18446744073709551616 + lo) * 2 ^ k := by
    have e := Int.emod_add_mul_ediv lo (2 ^ (64 - k))
    have f1 := Int.emod_nonneg lo (show (2 : Int) ^ (64 - k) ≠ 0 by have := hp (64 - k); omega)
    have f2 := Int.emod_lt_of_pos lo (hp (64 - k))
    generalize lo % 2 ^ (64 - k) = r at e f1 f2
    generalize lo / 2 ^ (64 - k) = c at e c0 c1
    have g1 := Int.mul_nonneg f1 (Int.le_of_lt (hp k))
    have g2 := Int.mul_lt_mul_of_pos_right f2 (hp k)
    rw [e64'] at g2
    have g3 : lo * 2 ^ k = r * 2 ^ k + 18446744073709551616 * c := by
      rw [← e, Int.add_mul, Int.mul_right_comm, e64']
    have g4 : (hi * 18446744073709551616 + lo) * 2 ^ k = hi * 2 ^ k * 18446744073709551616 + lo * 2 ^ k := by rw [Int.add_mul, Int.mul_right_comm]
    rw [IntKind.wrap_u64, g4, g3]
    omega
  have hw := wrap_bd (lo * 2 ^ k)
  have key := div64_core hi lo y (y * 2 ^ k) (IntKind.u64.wrap (lo * 2 ^ k)) (hi * 2 ^ k) (lo / 2 ^ (64 - k)) (hi * 2 ^ k + lo / 2 ^ (64 - k)) (y * 2 ^ k / 4294967296) (y * 2 ^ k % 4294967296) (IntKind.u64.wrap (lo * 2 ^ k) / 4294967296) (IntKind.u64.wrap (lo * 2 ^ k) % 4294967296) k (by rw [hL]; exact hk) (by omega) (by omega) h0 h1 (by omega)
    rfl rfl rfl rfl hor (and_mask (by omega) (by omega)) rfl rfl (and_mask hw.1 hw.2) (by omega) (by omega) (by omega) (by omega) (by omega) ⟨by omega, by omega, by omega, by omega, by omega, by omega, by omega, by omega⟩ (by omega) (by omega)
  have e1 : (hi * 2 ^ k + lo / 2 ^ (64 - k)) * 18446744073709551616 + (IntKind.u64.wrap (lo * 2 ^ k) / 4294967296 * 4294967296 + IntKind.u64.wrap (lo * 2 ^ k) % 4294967296) = (hi * 18446744073709551616 + lo) * 2 ^ k := by rw [← hU]; omega
  have e2 : y * 2 ^ k / 4294967296 * 4294967296 + y * 2 ^ k % 4294967296 = y * 2 ^ k := by omega
  rw [e1, e2, Int.mul_ediv_mul_of_pos_left _ _ (hp k)] at key
  exact key

def GivesD (q r : Int) (w : World) (e : Ending) (w' : World) : Prop := ∃ d, e = .returned (.tuple #[.int .u64 q, .int .u64 r]) ∧ w' = w.drewN d
theorem div64_zero (lo y : Int) (w : World) (h1 : 0 < y) (h2 : 0 ≤ lo) (h3 : lo ≤ 18446744073709551615) (h4 : y ≤ 9223372036854775807) :
    Calls Tryz.prog 239 #[.int .u64 0, .int .u64 lo, .int .u64 y] w (GivesD (lo / y) (lo % y) w) := by
  have hz : (y == 0) = false := by simp; omega
  obtain ⟨g1, g2⟩ : 0 ≤ lo / y ∧ lo / y ≤ lo := ⟨Int.ediv_nonneg h2 (by omega), Int.ediv_le_self _ h2⟩
  have g3 : lo.tmod y = lo % y := by rw [Int.tmod_eq_emod_of_nonneg h2]
  have g4 : lo.tdiv y = lo / y := by rw [Int.tdiv_eq_ediv_of_nonneg h2]
  have g5 : IntKind.u64.wrap (lo / y) = lo / y := by rw [IntKind.wrap_u64]; omega
  go_enter Tryz.func239, Tryz.ntmps239
  go_wp2_with fail
  go_quiet (fail)
  go_wp2
  go_ret2
  exact ⟨_, rfl, rfl⟩
theorem div64_any (hi lo y : Int) (h0 : 0 ≤ hi) (h1 : hi < y) (h2 : 0 ≤ lo) (h3 : lo ≤ 18446744073709551615) (h4 : y ≤ 9223372036854775807) :
    ∃ r, ∀ w, Calls Tryz.prog 239 #[.int .u64 hi, .int .u64 lo, .int .u64 y] w (GivesD ((hi * 18446744073709551616 + lo) / y) r w) := by
  by_cases h : hi = 0
  · subst h
    exact ⟨lo % y, fun w => by have := div64_zero lo y w h1 h2 h3 h4; rwa [Int.zero_mul, Int.zero_add]⟩
  · obtain ⟨r, hr⟩ := div64_pos hi lo y (by omega) h1 h2 h3 h4
    exact ⟨r, fun w => (hr w).mono fun e w' ⟨q', r', he, hq, hr, hw⟩ => ⟨0, by rw [he, hq, hr], by rw [← hw]; rfl⟩⟩
end Go.Proofs.YtkhebidmfjbhaaaGreatDoor
