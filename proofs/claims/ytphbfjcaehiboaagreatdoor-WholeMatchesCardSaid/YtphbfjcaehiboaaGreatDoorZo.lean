/-
  What whole.foresee returns.
  What natural.top and blend.abs return.
  What blend.mix returns.
-/
import Derived.Test.YtphbfjcaehiboaaGreatDoorZb
import Derived.Test.YtphbfjcaehiboaaGreatDoorZg
import Derived.Test.YtphbfjcaehiboaaGreatDoorZc
namespace Go.Proofs.YtphbfjcaehiboaaGreatDoor
open Go.RowKit

/-- The state of foresee's loop. -/
def Fs (x0 y0 va vb wa wb x y : Int) : Prop := Lh x0 y0 va vb wa wb x y ∨ Lh y0 x0 vb va wb wa x y
/-- What the blends make of numbers that begin with x0 and y0. -/
def Tp (x0 y0 va vb wa wb : Int) : Prop := ∀ P e f : Int, 0 ≤ e → e < P → 0 ≤ f → f < P → 0 ≤ va * (x0 * P + e) + vb * (y0 * P + f) ∧ 0 ≤ wa * (x0 * P + e) + wb * (y0 * P + f) ∧ wa * (x0 * P + e) + wb * (y0 * P + f) ≤ y0 * P + f ∧ (vb ≠ 0 → wa * (x0 * P + e) + wb * (y0 * P + f) < y0 * P + f)
structure Bl (x0 y0 va vb wa wb : Int) : Prop where
  sgn : (0 ≤ va ∧ vb ≤ 0 ∧ wa ≤ 0 ∧ 0 ≤ wb ∧ va * wb - vb * wa = 1) ∨ (va ≤ 0 ∧ 0 ≤ vb ∧ 0 < wa ∧ wb ≤ 0 ∧ va * wb - vb * wa = -1)
  va9 : -1000000000 < va ∧ va < 1000000000
  vb9 : -1000000000 < vb ∧ vb < 1000000000
  wa9 : -1000000000 < wa ∧ wa < 1000000000
  wb9 : -1000000000 < wb ∧ wb < 1000000000
  tp : Tp x0 y0 va vb wa wb
theorem Fs.facts {x0 y0 va vb wa wb x y : Int} (h : Fs x0 y0 va vb wa wb x y) : 0 ≤ x ∧ 0 ≤ y ∧ 0 ≤ x + va ∧ 0 ≤ x + vb ∧ -1000000000 < va ∧ va < 1000000000 ∧ -1000000000 < vb ∧ vb < 1000000000 ∧ -1000000000 < wa ∧ wa < 1000000000 ∧ -1000000000 < wb ∧ wb < 1000000000 := by
  rcases h with ⟨ex, ey, det, va1, vb0, wa0, wb1, x0', y0', xb, vaM, vbM, waM, wbM⟩ | ⟨ex, ey, det, va1, vb0, wa0, wb1, x0', y0', xb, vaM, vbM, waM, wbM⟩ <;> omega
theorem Fs.next {x0 y0 va vb wa wb x y q : Int} (h : Fs x0 y0 va vb wa wb x y) (hx9 : x0 < 1000000000000000000) (hy9 : y0 < 1000000000000000000)
    (ha : 0 < y + wa) (hb : 0 < y + wb) (qa : (x + va) / (y + wa) = q) (qb : (x + vb) / (y + wb) = q) :
    Fs x0 y0 wa wb (va - q * wa) (vb - q * wb) y (x - q * y) ∧ x - q * y < y := by
  rcases h with h | h
  · obtain ⟨h1, h2, _⟩ := h.next hx9 hy9 ha hb qa qb
    exact ⟨.inr h1, h2⟩
  · obtain ⟨h1, h2, _⟩ := h.next hy9 hx9 hb ha qb qa
    exact ⟨.inl h1, h2⟩
theorem Fs.bl {x0 y0 va vb wa wb x y : Int} (h : Fs x0 y0 va vb wa wb x y) (t : Tp x0 y0 va vb wa wb) : Bl x0 y0 va vb wa wb := by
  obtain ⟨_, _, _, _, f1, f2, f3, f4, f5, f6, f7, f8⟩ := h.facts
  refine ⟨?_, ⟨f1, f2⟩, ⟨f3, f4⟩, ⟨f5, f6⟩, ⟨f7, f8⟩, t⟩
  rcases h with ⟨ex, ey, det, va1, vb0, wa0, wb1, _, _, _, _, _, _, _⟩ | ⟨ex, ey, det, va1, vb0, wa0, wb1, _, _, _, _, _, _, _⟩
  · exact .inl ⟨by omega, vb0, wa0, by omega, det⟩
  · exact .inr ⟨vb0, by omega, by omega, wa0, by grind⟩
theorem Fs.tp {x0 y0 va vb wa wb x y q : Int} (h : Fs x0 y0 va vb wa wb x y) (t : Tp x0 y0 va vb wa wb) (ha : 0 < y + wa) (hb : 0 < y + wb) (qa : (x + va) / (y + wa) = q) (qb : (x + vb) / (y + wb) = q) :
    Tp x0 y0 wa wb (va - q * wa) (vb - q * wb) := by
  intro P e f e0 e1 f0 f1
  obtain ⟨_, t2, t3, _⟩ := t P e f e0 e1 f0 f1
  have key : 0 ≤ (va - q * wa) * (x0 * P + e) + (vb - q * wb) * (y0 * P + f) ∧ (va - q * wa) * (x0 * P + e) + (vb - q * wb) * (y0 * P + f) < wa * (x0 * P + e) + wb * (y0 * P + f) := by
    rcases h with h | h
    · exact h.tail ha hb qa qb e0 e1 f0 f1
    · have := h.tail hb ha qb qa f0 f1 e0 e1
      omega
  exact ⟨t2, key.1, by omega, fun _ => by omega⟩
theorem Tp.start (x0 y0 : Int) (hx : 0 ≤ x0) (hy : 0 ≤ y0) : Tp x0 y0 1 0 0 1 := by
  intro P e f e0 e1 f0 f1
  have h1 := Int.mul_nonneg hx (show 0 ≤ P by omega)
  have h2 := Int.mul_nonneg hy (show 0 ≤ P by omega)
  omega
def GivesF (x0 y0 : Int) (w : World) (e : Ending) (w' : World) : Prop := ∃ va vb wa wb, e = .returned (.tuple #[.agg #[.int .i64 va, .int .i64 vb], .agg #[.int .i64 wa, .int .i64 wb]]) ∧ Bl x0 y0 va vb wa wb ∧ Below w.heap.size w w'
theorem slot2_new (w : World) (u v : Value) (t : TypeId) (r : Nat) (hr : r = w.heap.size) : Slot (w.alloc (.cells #[u, v] t)) r 0 u ∧ Slot (w.alloc (.cells #[u, v] t)) r 1 v :=
  ⟨⟨by rw [World.cell?_alloc_at _ _ _ _ hr]; rfl, by rw [World.frozen?_alloc_at _ _ _ _ hr]⟩, ⟨by rw [World.cell?_alloc_at _ _ _ _ hr]; rfl, by rw [World.frozen?_alloc_at _ _ _ _ hr]⟩⟩
/-- The two boxes of foresee. -/
structure FB (w W : World) (va vb wa wb : Int) : Prop where
  below : Below w.heap.size w W
  size : w.heap.size + 1 < W.heap.size
  a : Slot W w.heap.size 0 (.int .i64 va)
  b : Slot W w.heap.size 1 (.int .i64 vb)
  c : Slot W (w.heap.size + 1) 0 (.int .i64 wa)
  d : Slot W (w.heap.size + 1) 1 (.int .i64 wb)
theorem FB.start (w : World) (va vb wa wb : Int) (t : TypeId) : FB w ((w.alloc (.cells #[.int .i64 va, .int .i64 vb] t)).alloc (.cells #[.int .i64 wa, .int .i64 wb] t)) va vb wa wb := by
  have h1 := alloc_below w (.cells #[.int .i64 va, .int .i64 vb] t)
  have h2 := alloc_below (w.alloc (.cells #[.int .i64 va, .int .i64 vb] t)) (.cells #[.int .i64 wa, .int .i64 wb] t)
  have hz : (w.alloc (.cells #[.int .i64 va, .int .i64 vb] t)).heap.size = w.heap.size + 1 := by simp
  have s1 := slot2_new w (.int .i64 va) (.int .i64 vb) t _ rfl
  have s2 := slot2_new (w.alloc (.cells #[.int .i64 va, .int .i64 vb] t)) (.int .i64 wa) (.int .i64 wb) t _ rfl
  rw [hz] at s2
  exact ⟨h1.trans (h2.mono (by omega)), by simp, s1.1.below h2 (by omega), s1.2.below h2 (by omega), s2.1, s2.2⟩
theorem FB.drew {w W : World} {va vb wa wb : Int} (h : FB w W va vb wa wb) : FB w W.drew va vb wa wb := ⟨h.below.drew, h.size, h.a, h.b, h.c, h.d⟩
theorem FB.put {w W : World} {va vb wa wb : Int} (h : FB w W va vb wa wb) (va' vb' wa' wb' : Int) :
    FB w ((((W.setCell ⟨w.heap.size, 0, none⟩ (.int .i64 va')).setCell ⟨w.heap.size, 1, none⟩ (.int .i64 vb')).setCell ⟨w.heap.size + 1, 0, none⟩ (.int .i64 wa')).setCell ⟨w.heap.size + 1, 1, none⟩ (.int .i64 wb')) va' vb' wa' wb' :=
  ⟨below_set (below_set (below_set (below_set h.below 0 (by omega) _) 1 (by omega) _) 0 (by omega) _) 1 (by omega) _, by have := h.size; simp; omega, slot_far (slot_put0 h.a) (by omega), slot_far (slot_put1 h.b) (by omega), slot_put0 (slot_far h.c (by omega)), slot_put1 (slot_far h.d (by omega))⟩
set_option maxHeartbeats 2000000 in
set_option maxRecDepth 100000 in
theorem foresee_any (x0 y0 : Int) (w : World) (hx : 0 ≤ x0) (hy : 0 ≤ y0) (hx9 : x0 < 1000000000000000000) (hy9 : y0 < 1000000000000000000) :
    Calls Tryz.prog 148 #[.int .i64 x0, .int .i64 y0] w (GivesF x0 y0 w) := by
  have FB0 := Lib.hid (FB.start w 1 0 0 1 161)
  have FS0 := Lib.hid (show Fs x0 y0 1 0 0 1 x0 y0 from .inl (Lh.start hx hy))
  have TP0 := Lib.hid (Tp.start x0 y0 hx hy)
  go_enter Tryz.func148, Tryz.ntmps148
  go_wp2
  generalize (w.alloc (.cells #[.int .i64 1, .int .i64 0] 161)).alloc (.cells #[.int .i64 0, .int .i64 1] 161) = W0 at *
  go_loopw [0, 1] (fun u v wr => ∃ va vb wa wb x y : Int, u = .int .i64 x ∧ v = .int .i64 y ∧ FB w wr va vb wa wb ∧ Fs x0 y0 va vb wa wb x y ∧ Tp x0 y0 va vb wa wb ∧ x < 1000000000000000000 ∧ y < 1000000000000000000) (fun _ v _ => (intOf v).toNat)
  case atStart => exact ⟨1, 0, 0, 1, x0, y0, rfl, rfl, FB0.out, FS0.out, TP0.out, hx9, hy9⟩
  case round =>
    obtain ⟨va, vb, wa, wb, x, y, rfl, rfl, hfb, hfs, htp, hx8, hy8⟩ := hrel
    obtain ⟨g1, g2, g3, g4, g5, g6, g7, g8, g9, g10, g11, g12⟩ := hfs.facts
    have c1 := hfb.a.1
    have c2 := hfb.b.1
    have c3 := hfb.c.1
    have c4 := hfb.d.1
    have d1 := hfb.a.2
    have d2 := hfb.b.2
    have d3 := hfb.c.2
    have d4 := hfb.d.2
    have FBH := Lib.hid hfb
    have FSH := Lib.hid hfs
    have TPH := Lib.hid htp
    clear hfb hfs htp
    by_cases ha : 0 < y + wa
    · by_cases hb : 0 < y + wb
      · obtain ⟨q, hq⟩ : ∃ q, q = (x + va) / (y + wa) := ⟨_, rfl⟩
        obtain ⟨p, hp⟩ : ∃ p, p = (x + vb) / (y + wb) := ⟨_, rfl⟩
        have tq : (x + va).tdiv (y + wa) = q := by rw [hq, Int.tdiv_eq_ediv_of_nonneg g3]
        have tp : (x + vb).tdiv (y + wb) = p := by rw [hp, Int.tdiv_eq_ediv_of_nonneg g4]
        have hq0 : 0 ≤ q := by rw [hq]; exact Int.ediv_nonneg g3 (by omega)
        have hq1 : q ≤ x + va := by rw [hq]; exact Int.ediv_le_self _ g3
        have hp0 : 0 ≤ p := by rw [hp]; exact Int.ediv_nonneg g4 (by omega)
        have hp1 : p ≤ x + vb := by rw [hp]; exact Int.ediv_le_self _ g4
        have hya : (y + wa == 0) = false := beq_eq_false_iff_ne.2 (by omega)
        have hyb : (y + wb == 0) = false := beq_eq_false_iff_ne.2 (by omega)
        by_cases hpq : p = q
        · rw [hpq] at tp hp
          have hbn : (q != q) = false := by simp
          obtain ⟨hnx, hlt⟩ := FSH.out.next hx9 hy9 ha hb hq.symm hp.symm
          have htn := FSH.out.tp TPH.out ha hb hq.symm hp.symm
          obtain ⟨k1, k2, k3, k4, k5, k6, k7, k8, k9, k10, k11, k12⟩ := hnx.facts
          have NX := Lib.hid hnx
          have TN := Lib.hid htn
          have HLT := Lib.hid hlt
          have hqy : 0 ≤ q * y := Int.mul_nonneg hq0 g2
          have m1 : -9223372036854775808 ≤ q * wa := by omega
          have m2 : q * wa ≤ 9223372036854775807 := by omega
          have m3 : -9223372036854775808 ≤ q * wb := by omega
          have m4 : q * wb ≤ 9223372036854775807 := by omega
          clear hnx htn hq hp hpq hlt
          go_wp2
          go_region
          all_goals go_wp2
          all_goals go_roundw
          case rel => exact ⟨wa, wb, va - q * wa, vb - q * wb, y, x - q * y, rfl, rfl, FBH.out.drew.put _ _ _ _, NX.out, TN.out, hy8, by have := HLT.out; omega⟩
          case measure => have := HLT.out; simp [intOf]; omega
        · have hbn : (q != p) = true := bne_iff_ne.2 (fun e => hpq e.symm)
          clear hq hp
          go_wp2
          go_region
          all_goals go_wp2
          have F := (FBH.out.put va vb wa wb).drew
          exact bodyPost_ret (v := .tuple #[.agg #[.int .i64 va, .int .i64 vb], .agg #[.int .i64 wa, .int .i64 wb]]) (by simp [results, Tryz.results148, go_sem, F.a.1, F.b.1, F.c.1, F.d.1]) rfl ⟨va, vb, wa, wb, rfl, FSH.out.bl TPH.out, F.below⟩
      · go_wp2
        go_region
        all_goals go_wp2
        have F := (FBH.out.put va vb wa wb).drew
        exact bodyPost_ret (v := .tuple #[.agg #[.int .i64 va, .int .i64 vb], .agg #[.int .i64 wa, .int .i64 wb]]) (by simp [results, Tryz.results148, go_sem, F.a.1, F.b.1, F.c.1, F.d.1]) rfl ⟨va, vb, wa, wb, rfl, FSH.out.bl TPH.out, F.below⟩
    · go_wp2
      go_region
      all_goals go_wp2
      have F := (FBH.out.put va vb wa wb).drew
      exact bodyPost_ret (v := .tuple #[.agg #[.int .i64 va, .int .i64 vb], .agg #[.int .i64 wa, .int .i64 wb]]) (by simp [results, Tryz.results148, go_sem, F.a.1, F.b.1, F.c.1, F.d.1]) rfl ⟨va, vb, wa, wb, rfl, FSH.out.bl TPH.out, F.below⟩
end Go.Proofs.YtphbfjcaehiboaaGreatDoor
namespace Go.Proofs.YtphbfjcaehiboaaGreatDoor
open Go.RowKit

theorem top_two {x : Int} {k : Nat} (h0 : 0 ≤ x) (h1 : x < bp (k + 2)) : lz x (k + 1) * 1000000000 + lz x k = x / bp k := by
  have h2 := div_split x k
  have h3 := div_split x (k + 1)
  rw [show k + 1 + 1 = k + 2 from rfl, div_zero h0 h1] at h3
  omega
set_option maxHeartbeats 800000 in
theorem top_any (u : Value) (x : Int) (w : World) (hu : NatV w u x) (hp : 0 < x) :
    Calls Tryz.prog 149 #[.agg #[u]] w (GivesI (x / bp (nl x - 2)) w) := by
  obtain ⟨a, n, rfl, hn, hn1, hx0, hx1, hrx⟩ := hu.form
  have hnp := nl_pos hp
  obtain ⟨g, o, rfl, hg, hc⟩ := hrx (by omega)
  rw [← hn]
  rcases Nat.lt_or_ge n 2 with h2 | h2
  · obtain rfl : n = 1 := by omega
    have hc0 := hc 0 (by omega)
    have e : x / bp (1 - 2) = lz x 0 := by rw [show 1 - 2 = 0 from rfl]; unfold lz; rw [div_bp_zero, Int.emod_eq_of_lt hx0 (by rw [bp_one] at hx1; exact hx1)]
    rw [e]
    have hb := lz_bd x 0
    have hw : IntKind.i64.wrap (lz x 0) = lz x 0 := by rw [IntKind.wrap_i64]; omega
    generalize lz x 0 = t at *
    rw [Nat.add_zero] at hc0
    have B0 := Lib.hid (alloc_below w (.cells #[.slice (some ⟨g, o, none⟩) 1 1] 64))
    clear hn hx1 hrx hu hc hnp e
    go_enter Tryz.func149, Tryz.ntmps149
    go_wp2
    go_ret
    exact ⟨rfl, B0.out⟩
  · obtain ⟨k, rfl⟩ : ∃ k, n = k + 2 := ⟨n - 2, by omega⟩
    rw [show k + 2 - 2 = k by omega, ← top_two hx0 hx1]
    have c0 := hc k (by omega)
    have c1 := hc (k + 1) (by omega)
    have hb0 := lz_bd x k
    have hb1 := lz_bd x (k + 1)
    generalize lz x k = t at *
    generalize lz x (k + 1) = s at *
    have B0 := Lib.hid (alloc_below w (.cells #[.slice (some ⟨g, o, none⟩) (k + 2) (k + 2)] 64))
    have hz : ((((k + 2 : Nat) : Int)) == 1) = false := by rw [beq_eq_false_iff_ne]; omega
    clear hn hx1 hrx hu hc hnp
    go_enter Tryz.func149, Tryz.ntmps149
    go_wp2
    go_region
    all_goals go_wp2
    all_goals go_ret
    all_goals exact ⟨rfl, B0.out.drew⟩
theorem abs_any (a b : Int) (w : World) (ha1 : -1000000000 < a) (ha2 : a < 1000000000) (hb1 : -1000000000 < b) (hb2 : b < 1000000000) :
    Calls Tryz.prog 151 #[.agg #[.int .i64 a, .int .i64 b]] w fun e w' => e = .returned (.agg #[.int .i64 a.natAbs, .int .i64 b.natAbs]) ∧ Below w.heap.size w w' := by
  have ea : max a (-a) = (a.natAbs : Int) := by omega
  have eb : max b (-b) = (b.natAbs : Int) := by omega
  have EA := Lib.hid ea
  have EB := Lib.hid eb
  have F := Lib.hid (FB.start w a b a.natAbs b.natAbs 161)
  clear ea eb
  go_enter Tryz.func151, Tryz.ntmps151
  go_wp2
  rw [EA.out, EB.out]
  exact bodyPost_ret (v := .agg #[.int .i64 a.natAbs, .int .i64 b.natAbs]) (by simp [results, Tryz.results151, go_sem, F.out.c.1, F.out.d.1]) rfl ⟨rfl, F.out.below⟩
end Go.Proofs.YtphbfjcaehiboaaGreatDoor
namespace Go.Proofs.YtphbfjcaehiboaaGreatDoor
open Go.RowKit

theorem lz_mod {z : Int} {i j : Nat} : lz (z % bp i) j = if j < i then lz z j else 0 := by
  have hp := bp_pos i
  by_cases h : j < i
  · rw [if_pos h]
    have e : z = z % bp i + bp i * (z / bp i) := (Int.emod_add_mul_ediv z (bp i)).symm
    rw [e, lz_low _ _ h, ← e]
  · rw [if_neg h]
    exact lz_high (Int.emod_nonneg _ (by omega)) (Int.emod_lt_of_pos _ hp) (by omega)
theorem Fresh.drew {w w1 : World} {g n : Nat} {z : Int} (h : Fresh w w1 g n z) : Fresh w w1.drew g n z := ⟨h.below.drew, h.ge, h.lt, h.cells, h.free⟩
theorem Fresh.grow {w w1 : World} {g n i : Nat} {z : Int} (h : Fresh w w1 g n (z % bp i)) (hi : i < n) : Fresh w (w1.setCell ⟨g, i, none⟩ (.int .u64 (lz z i))) g n (z % bp (i + 1)) := by
  have := (Cells.start h.cells).set (i := i) hi (lz z i) (f' := lz (z % bp (i + 1))) (fun j hj => by
    rw [lz_mod, lz_mod]
    by_cases e : j = i
    · subst e; rw [if_pos (by omega), if_pos rfl]
    · rw [if_neg e]
      by_cases h1 : j < i
      · rw [if_pos h1, if_pos (by omega)]
      · rw [if_neg h1, if_neg (by omega)])
  rw [Nat.zero_add] at this
  exact h.wrote this
/-- The carry is no less than the negative factor. -/
theorem mx_low {A C : Int} (x y : Int) (i : Nat) (hA : 0 ≤ A) (hC : -1000000000 < C) : -1000000000 < mx A C x y i := by
  obtain ⟨x0, x1⟩ := mod_bd x i
  obtain ⟨y0, y1⟩ := mod_bd y i
  have hp := bp_pos i
  have a0 := Int.mul_nonneg hA x0
  have c0 := Int.mul_nonneg (show 0 ≤ C + 999999999 by omega) y0
  have c1 := Int.mul_le_mul_of_nonneg_left (Int.le_of_lt y1) (show (0 : Int) ≤ 999999999 by decide)
  rw [Int.add_mul] at c0
  have : -999999999 ≤ mx A C x y i := by
    unfold mx
    apply Int.le_ediv_of_mul_le hp
    omega
  omega
theorem mx_swap (A C x y : Int) (i : Nat) : mx A C x y i = mx C A y x i := by unfold mx; rw [Int.add_comm]
/-- A step of the carry stays within a word. -/
theorem mx_word {A C x y : Int} (i : Nat) (hs : 0 ≤ A ∨ 0 ≤ C) (hA1 : -1000000000 < A) (hA2 : A < 1000000000) (hC1 : -1000000000 < C) (hC2 : C < 1000000000) :
    -1000000000000000000 ≤ A * lz x i ∧ A * lz x i ≤ 1000000000000000000 ∧ -1000000000000000000 ≤ C * lz y i ∧ C * lz y i ≤ 1000000000000000000 ∧ 0 ≤ mx A C x y i + (A * lz x i + C * lz y i) + 1000000000000000000 ∧ -2000000000 ≤ mx A C x y i ∧ mx A C x y i ≤ 2000000000 := by
  have key : ∀ {D l : Int}, -1000000000 < D → D < 1000000000 → 0 ≤ l → l < 1000000000 → -999999998000000001 ≤ D * l ∧ D * l ≤ 999999998000000001 := by
    intro D l h1 h2 h3 h4
    have e1 := Int.mul_nonneg (show 0 ≤ 999999999 - D by omega) h3
    have e2 := Int.mul_nonneg (show 0 ≤ D + 999999999 by omega) h3
    rw [Int.sub_mul] at e1
    rw [Int.add_mul] at e2
    omega
  obtain ⟨l0, l1⟩ := lz_bd x i
  obtain ⟨m0, m1⟩ := lz_bd y i
  obtain ⟨p1, p2⟩ := key hA1 hA2 l0 l1
  obtain ⟨q1, q2⟩ := key hC1 hC2 m0 m1
  have hb := mx_bd (A := A) (C := C) (M := 1000000000) x y i (by omega) (by omega)
  refine ⟨by omega, by omega, by omega, by omega, ?_, hb.1, hb.2⟩
  rcases hs with h | h
  · have := mx_low (A := A) (C := C) x y i h hC1
    have := Int.mul_nonneg h l0
    omega
  · have := mx_low (A := C) (C := A) y x i h hA1
    rw [← mx_swap] at this
    have := Int.mul_nonneg h m0
    omega
theorem mx_lt {A C x y : Int} {n : Nat} (hx : 0 ≤ x) (hx1 : x < bp n) (hy : 0 ≤ y) (hy1 : y < bp n) (hA : A < 1000000000) (hC : C < 1000000000) : A * x + C * y < bp (n + 2) := by
  have e1 := Int.mul_nonneg (show 0 ≤ 999999999 - A by omega) hx
  have e2 := Int.mul_nonneg (show 0 ≤ 999999999 - C by omega) hy
  rw [Int.sub_mul] at e1 e2
  rw [bp_succ, bp_succ]
  omega
set_option maxHeartbeats 4000000 in
set_option maxRecDepth 100000 in
theorem mix_any (A C : Int) (u v : Value) (x y : Int) (w : World) (hu : NatV w u x) (hv : NatV w v y) (hx : nl x ≤ 40000) (hy : nl y ≤ 40000) (hs : 0 ≤ A ∨ 0 ≤ C) (hA1 : -1000000000 < A) (hA2 : A < 1000000000) (hC1 : -1000000000 < C) (hC2 : C < 1000000000) (hz : 0 ≤ A * x + C * y) :
    Calls Tryz.prog 150 #[.agg #[.int .i64 A, .int .i64 C], .agg #[u], .agg #[v]] w (GivesN (A * x + C * y) w) := by
  obtain ⟨a, n, rfl, hn, hn1, hx0, hx1, hrx⟩ := hu.form
  obtain ⟨b, m, rfl, hm, hm1, hy0, hy1, hry⟩ := hv.form
  rw [← hn] at hx
  rw [← hm] at hy
  have HRX := Lib.hid hrx
  have HRY := Lib.hid hry
  obtain ⟨N, hN⟩ : ∃ N : Nat, N = max n m + 2 := ⟨_, rfl⟩
  have hmk := mk_u64 N (by omega)
  have hNe : max (n : Int) (m : Int) + 2 = (N : Int) := by omega
  have hnN : n ≤ N := by omega
  have hmN : m ≤ N := by omega
  have hlt := mx_lt (A := A) (C := C) hx0 (Int.lt_of_lt_of_le hx1 (bp_mono (show n ≤ N - 2 by omega))) hy0 (Int.lt_of_lt_of_le hy1 (bp_mono (show m ≤ N - 2 by omega))) hA2 hC2
  rw [show N - 2 + 2 = N by omega] at hlt
  have hwd := fun i => mx_word (x := x) (y := y) i hs hA1 hA2 hC1 hC2
  have hst := fun i => mx_step A C x y i
  have hhx : ∀ i, n ≤ i → lz x i = 0 := fun i h => lz_high hx0 hx1 h
  have hhy : ∀ i, m ≤ i → lz y i = 0 := fun i h => lz_high hy0 hy1 h
  obtain ⟨z, hzz⟩ : ∃ z, z = A * x + C * y := ⟨_, rfl⟩
  rw [← hzz] at hz hlt hst ⊢
  obtain ⟨W0, hW0⟩ : ∃ W0, W0 = ((((w.alloc (.cells #[.int .i64 A, .int .i64 C] 161)).alloc (.cells #[.slice a n n] 64)).alloc (.cells #[.slice b m m] 64)).alloc (.cells #[.slice none 0 0] 64)) := ⟨_, rfl⟩
  have k1 := alloc_below w (.cells #[.int .i64 A, .int .i64 C] 161)
  have k2 := alloc_below (w.alloc (.cells #[.int .i64 A, .int .i64 C] 161)) (.cells #[.slice a n n] 64)
  have k3 := alloc_below ((w.alloc (.cells #[.int .i64 A, .int .i64 C] 161)).alloc (.cells #[.slice a n n] 64)) (.cells #[.slice b m m] 64)
  have k4 := alloc_below (((w.alloc (.cells #[.int .i64 A, .int .i64 C] 161)).alloc (.cells #[.slice a n n] 64)).alloc (.cells #[.slice b m m] 64)) (.cells #[.slice none 0 0] 64)
  have sv := slot2_new w (.int .i64 A) (.int .i64 C) 161 _ rfl
  have sx := slot_new (w.alloc (.cells #[.int .i64 A, .int .i64 C] 161)) (.slice a n n) 64 (w.heap.size + 1) (by simp)
  have sy := slot_new ((w.alloc (.cells #[.int .i64 A, .int .i64 C] 161)).alloc (.cells #[.slice a n n] 64)) (.slice b m m) 64 (w.heap.size + 1 + 1) (by simp)
  have sr := slot_new (((w.alloc (.cells #[.int .i64 A, .int .i64 C] 161)).alloc (.cells #[.slice a n n] 64)).alloc (.cells #[.slice b m m] 64)) (.slice none 0 0) 64 (w.heap.size + 1 + 1 + 1) (by simp)
  have j1 := k1.trans ((k2.trans ((k3.trans (k4.mono (by simp))).mono (by simp))).mono (by simp))
  have j2 := k2.trans ((k3.trans (k4.mono (by simp))).mono (by simp))
  have j3 := k3.trans (k4.mono (by simp))
  have S1 := Lib.hid (show Slot W0 w.heap.size 0 (.int .i64 A) by rw [hW0]; exact sv.1.below j2 (by simp))
  have S2 := Lib.hid (show Slot W0 w.heap.size 1 (.int .i64 C) by rw [hW0]; exact sv.2.below j2 (by simp))
  have S3 := Lib.hid (show Slot W0 (w.heap.size + 1) 0 (.slice a n n) by rw [hW0]; exact sx.below j3 (by simp))
  have S4 := Lib.hid (show Slot W0 (w.heap.size + 1 + 1) 0 (.slice b m m) by rw [hW0]; exact sy.below k4 (by simp))
  have S5 := Lib.hid (show Slot W0 (w.heap.size + 1 + 1 + 1) 0 (.slice none 0 0) by rw [hW0]; exact sr)
  have B0 := Lib.hid (show Below w.heap.size w W0 by rw [hW0]; exact j1)
  have z0 : W0.heap.size = w.heap.size + 1 + 1 + 1 + 1 := by rw [hW0]; simp
  have hF := Fresh.made W0 N
  rw [z0] at hF
  have HF := Lib.hid hF
  have WD := Lib.hid hwd
  have ST := Lib.hid hst
  have HHX := Lib.hid hhx
  have HHY := Lib.hid hhy
  have HZ := Lib.hid hz
  have HLT := Lib.hid hlt
  have HNN := Lib.hid hN
  have M0 := Lib.hid (mx_zero A C x y)
  clear hn hm hrx hry hu hv hx1 hy1 hlt hwd hst hhx hhy hz hzz hs k1 k2 k3 k4 sv sx sy sr j1 j2 j3 hF hN
  go_enter Tryz.func150, Tryz.ntmps150
  go_wp2
  rw [← hW0]
  have Z0 := Lib.hid z0
  clear hW0 z0
  go_loopw [8, 22] (fun c i wr => ∃ k : Nat, k ≤ N ∧ i = .int .i64 k ∧ c = .int .i64 (mx A C x y k) ∧ Fresh W0 wr (w.heap.size + 1 + 1 + 1 + 1) N (z % bp k)) (fun _ i _ => N - (intOf i).toNat)
  case atStart => exact ⟨0, by omega, rfl, by rw [M0.out], by rw [mod_zero]; exact HF.out⟩
  case round =>
    obtain ⟨k, hk, rfl, rfl, hFr⟩ := hrel
    have HR := Lib.hid hFr
    have d1 := (S1.out.below hFr.below (by have := Z0.out; omega)).1
    have d2 := (S2.out.below hFr.below (by have := Z0.out; omega)).1
    have d3 := (S3.out.below hFr.below (by have := Z0.out; omega)).1
    have d4 := (S4.out.below hFr.below (by have := Z0.out; omega)).1
    clear hFr HF
    by_cases hlt : k < N
    · have h4 := HR.out.free' k hlt
      have h3 := HR.out.cell' k hlt
      obtain ⟨e1, e2, e3, e4, e5, e6, e7⟩ := WD.out k
      obtain ⟨f1, f2⟩ := ST.out k
      by_cases hx' : k < n <;> by_cases hy' : k < m
      · obtain ⟨g, o, rfl, hg, hcx⟩ := HRX.out (by omega)
        have h1 := (below_at HR.out.below (o + k) (by have := Z0.out; omega)).trans ((below_at B0.out (o + k) hg).trans (hcx k hx'))
        clear hcx
        obtain ⟨g', o', rfl, hg', hcy⟩ := HRY.out (by omega)
        have h2 := (below_at HR.out.below (o' + k) (by have := Z0.out; omega)).trans ((below_at B0.out (o' + k) hg').trans (hcy k hy'))
        clear hcy
        have g1 : (mx A C x y k + A * lz x k + C * lz y k + 1000000000000000000) % 1000000000 = lz z k := by omega
        have g2 : (mx A C x y k + A * lz x k + C * lz y k + 1000000000000000000) / 1000000000 - 1000000000 = mx A C x y (k + 1) := by omega
        have HG := Lib.hid (HR.out.drew.drew.grow hlt)
        rw [← g1] at HG
        have G2 := Lib.hid g2
        clear g1 g2 f1 f2
        have b1 := lz_bd x k
        have b2 := lz_bd y k
        generalize lz x k = lx at *
        generalize lz y k = ly at *
        generalize mx A C x y k = c at *
        go_wp2
        go_region
        all_goals go_wp2
        all_goals go_region
        all_goals go_wp2
        all_goals go_roundw
        case rel => exact ⟨k + 1, by omega, by go_num, by rw [← G2.out], HG.out⟩
        case measure => simp [intOf]; omega
      · obtain ⟨g, o, rfl, hg, hcx⟩ := HRX.out (by omega)
        have h1 := (below_at HR.out.below (o + k) (by have := Z0.out; omega)).trans ((below_at B0.out (o + k) hg).trans (hcx k hx'))
        clear hcx
        have hy9 := HHY.out k (by omega)
        rw [hy9] at e3 e4 e5 f1 f2
        rw [Int.mul_zero] at e3 e4 e5 f1 f2
        clear hy9
        have g1 : (mx A C x y k + A * lz x k + 1000000000000000000) % 1000000000 = lz z k := by omega
        have g2 : (mx A C x y k + A * lz x k + 1000000000000000000) / 1000000000 - 1000000000 = mx A C x y (k + 1) := by omega
        have HG := Lib.hid (HR.out.drew.grow hlt)
        rw [← g1] at HG
        have G2 := Lib.hid g2
        clear g1 g2 f1 f2
        have b1 := lz_bd x k
        generalize lz x k = lx at *
        generalize mx A C x y k = c at *
        go_wp2
        go_region
        all_goals go_wp2
        all_goals go_roundw
        case rel => exact ⟨k + 1, by omega, by go_num, by rw [← G2.out], HG.out⟩
        case measure => simp [intOf]; omega
      · have hx9 := HHX.out k (by omega)
        rw [hx9] at e1 e2 e5 f1 f2
        rw [Int.mul_zero] at e1 e2 e5 f1 f2
        clear hx9
        obtain ⟨g', o', rfl, hg', hcy⟩ := HRY.out (by omega)
        have h2 := (below_at HR.out.below (o' + k) (by have := Z0.out; omega)).trans ((below_at B0.out (o' + k) hg').trans (hcy k hy'))
        clear hcy
        have g1 : (mx A C x y k + C * lz y k + 1000000000000000000) % 1000000000 = lz z k := by omega
        have g2 : (mx A C x y k + C * lz y k + 1000000000000000000) / 1000000000 - 1000000000 = mx A C x y (k + 1) := by omega
        have HG := Lib.hid (HR.out.drew.grow hlt)
        rw [← g1] at HG
        have G2 := Lib.hid g2
        clear g1 g2 f1 f2
        have b2 := lz_bd y k
        generalize lz y k = ly at *
        generalize mx A C x y k = c at *
        go_wp2
        go_region
        all_goals go_wp2
        all_goals go_roundw
        case rel => exact ⟨k + 1, by omega, by go_num, by rw [← G2.out], HG.out⟩
        case measure => simp [intOf]; omega
      · have hx9 := HHX.out k (by omega)
        rw [hx9] at e1 e2 e5 f1 f2
        rw [Int.mul_zero] at e1 e2 e5 f1 f2
        clear hx9
        have hy9 := HHY.out k (by omega)
        rw [hy9] at e3 e4 e5 f1 f2
        rw [Int.mul_zero] at e3 e4 e5 f1 f2
        clear hy9
        have g1 : (mx A C x y k + 1000000000000000000) % 1000000000 = lz z k := by omega
        have g2 : (mx A C x y k + 1000000000000000000) / 1000000000 - 1000000000 = mx A C x y (k + 1) := by omega
        have HG := Lib.hid (HR.out.grow hlt)
        rw [← g1] at HG
        have G2 := Lib.hid g2
        clear g1 g2 f1 f2
        generalize mx A C x y k = c at *
        go_wp2
        all_goals go_roundw
        case rel => exact ⟨k + 1, by omega, by go_num, by rw [← G2.out], HG.out⟩
        case measure => simp [intOf]; omega
    · obtain rfl : k = N := by omega
      have hzm : z % bp k = z := mod_self HZ.out HLT.out
      rw [hzm] at HR
      go_wp2_with fail
      refine (trim_any _ k k z _ HZ.out HLT.out (by omega) (by omega) HR.out.row).mono ?_
      rintro e w3 ⟨v, rfl, hv, hb⟩
      have hs3 := HR.out.lt
      have hz0 := Z0.out
      obtain ⟨q1, q2⟩ := (S5.out.below HR.out.below (by omega)).below hb (by omega)
      have HB3 := Lib.hid (B0.out.trans ((HR.out.below.mono (by omega)).trans (hb.mono (by omega))))
      have HV3 := Lib.hid hv
      obtain ⟨a', n', rfl, hn', _, _, _, _⟩ := hv.form
      have HN' := Lib.hid hn'
      clear hv hb hn' hz0 hzm
      go_wp2
      exact bodyPost_ret (v := .agg #[.slice a' n' n']) (by simp [results, Tryz.results150, go_sem, q1]) rfl ⟨_, rfl, HV3.out.store q1 (fun _ e => by cases e) _, below_set HB3.out 0 (by omega) _⟩
end Go.Proofs.YtphbfjcaehiboaaGreatDoor
