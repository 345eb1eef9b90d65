/-
  What natural.divide returns.
  A law for a region whose order is drawn: a load may be taken first where a named call waits for it, even if the region stores into its cell at the end.
  What Number.DivMod returns: the floored quotient and the remainder.
-/
import Derived.Test.YtkhebidmfjbhaaaGreatDoorZ07
import Derived.Test.YtkhebidmfjbhaaaGreatDoorZ04
import Derived.Test.YtkhebidmfjbhaaaGreatDoorZ01
import Derived.OrdersHeld
import Derived.RegionTactic
import Derived.Deep.RegionHeld
namespace Go.Proofs.YtkhebidmfjbhaaaGreatDoor
open Go.RowKit

theorem elem71 : Tryz.prog.elem 70 = 69 := by kernel_rfl
theorem und71 : Tryz.prog.underlying 70 = some (.slice (Tryz.prog.elem 70)) := by kernel_rfl
theorem size108 (w : World) : (Go.sizeOf 69).run Tryz.prog w = .ok 1 w := Tryz.sizeOf69 w
/-- A window of m + 1 limbs. -/
theorem slice_win (g i m n cap : Nat) (h : i + m + 1 ≤ cap) (w : World) : (Instr.slice 70 (.slice (some ⟨g, 0, none⟩) n cap) (some (.int .i64 (i : Int))) (some (.int .i64 ((i : Int) + (m : Int) + 1))) (some (.int .i64 ((i : Int) + (m : Int) + 1)))).run Tryz.prog w = .ok (.slice (some ⟨g, i, none⟩) (m + 1) (m + 1)) w := by
  rw [run_slice_lhm (ht := und71) (h0 := by omega) (h1 := by omega) (h2 := by omega) (h3 := by omega), elem71, size108]
  simp only [Result.andThen, sliced]
  have e1 : ((i : Int) + (m : Int) + 1).toNat = i + m + 1 := by omega
  rw [e1, Int.toNat_natCast, if_neg (by omega), show i + m + 1 - i = m + 1 by omega]
  simp [Addr.add]
  omega

/-- The call hands back two natural numbers. -/
def GivesNN (x y : Int) (w : World) (e : Ending) (w' : World) : Prop := ∃ p v q u, e = .returned (.tuple #[.agg #[p, v], .agg #[q, u]]) ∧ NatV w' p v x ∧ NatV w' q u y ∧ Below w.heap.size w w'
/-- The boxes of two natural numbers and those of two results, from the end of w on. -/
structure Box4 (w W : World) (p v q u : Value) : Prop where
  sz : w.heap.size + 1 + 1 + 1 < W.heap.size
  below : Below w.heap.size w W
  p0 : W.cell? ⟨w.heap.size, 0, none⟩ = some p
  p1 : W.cell? ⟨w.heap.size, 1, none⟩ = some v
  q0 : W.cell? ⟨w.heap.size + 1, 0, none⟩ = some q
  q1 : W.cell? ⟨w.heap.size + 1, 1, none⟩ = some u
  r1 : ResN W (w.heap.size + 1 + 1)
  r2 : ResN W (w.heap.size + 1 + 1 + 1)
theorem Box4.new (w : World) (p v q u : Value) (T : TypeId) : Box4 w ((((w.alloc (.cells #[p, v] T)).alloc (.cells #[q, u] T)).alloc (.cells #[.int .u64 0, .slice none 0 0] T)).alloc (.cells #[.int .u64 0, .slice none 0 0] T)) p v q u := by
  have h := Box2.new w p v q u T
  have hb := alloc_below (((w.alloc (.cells #[p, v] T)).alloc (.cells #[q, u] T)).alloc (.cells #[.int .u64 0, .slice none 0 0] T)) (.cells #[.int .u64 0, .slice none 0 0] T)
  have h2 := h.step hb
  exact ⟨by simp, h2.below, h2.p0, h2.p1, h2.q0, h2.q1, h2.res, ResN.new _ _ _ (by simp)⟩
theorem Box4.step {w W W' : World} {p v q u : Value} (h : Box4 w W p v q u) (hb : Below W.heap.size W W') : Box4 w W' p v q u := by
  have h1 := h.sz
  exact ⟨by have := hb.size; omega, h.below.trans (hb.mono (by omega)), (below_at hb 0 (by omega)).trans h.p0, (below_at hb 1 (by omega)).trans h.p1, (below_at hb 0 (by omega)).trans h.q0, (below_at hb 1 (by omega)).trans h.q1, h.r1.below hb (by omega), h.r2.below hb (by omega)⟩
/-- Both results are written into their boxes. -/
theorem Box4.fin {w W : World} {p v q u p1 v1 p2 v2 : Value} {x y : Int} (h : Box4 w W p v q u) (h1 : NatV W p1 v1 x) (h2 : NatV W p2 v2 y) :
    GivesNN x y w (.returned (.tuple #[.agg #[p1, v1], .agg #[p2, v2]])) ((((W.setCell ⟨w.heap.size + 1 + 1, 0, none⟩ p1).setCell ⟨w.heap.size + 1 + 1, 1, none⟩ v1).setCell ⟨w.heap.size + 1 + 1 + 1, 0, none⟩ p2).setCell ⟨w.heap.size + 1 + 1 + 1, 1, none⟩ v2) := by
  have hc : ((W.setCell ⟨w.heap.size + 1 + 1, 0, none⟩ p1).setCell ⟨w.heap.size + 1 + 1, 1, none⟩ v1).cell? ⟨w.heap.size + 1 + 1 + 1, 1, none⟩ = some (.slice none 0 0) := by
    rw [World.cell?_setCell_other _ _ _ _ (by intro e; injection e; omega), World.cell?_setCell_other _ _ _ _ (by intro e; injection e; omega)]; exact h.r2.c1
  exact ⟨p1, v1, p2, v2, rfl, (h1.put h.r1.c1 _ _).put hc _ _, (h2.put h.r1.c1 _ _).put hc _ _, below_set (below_set (below_set (below_set h.below 0 (by omega) _) 1 (by omega) _) 0 (by omega) _) 1 (by omega) _⟩
theorem Box4.drew {w W : World} {p v q u : Value} (h : Box4 w W p v q u) : Box4 w W.drew p v q u := h.step (below_drew W)
theorem dq_bd0 {x V : Int} {n : Nat} (h0 : 0 ≤ x) (hV : 0 < V) (h : dq x V n = 0) : 0 ≤ dq x V 0 ∧ dq x V 0 < bp n := by
  rw [dq_zero]
  refine ⟨Int.ediv_nonneg h0 (Int.le_of_lt hV), ?_⟩
  have hp := bp_pos n
  have e : x / bp n / V = 0 := by
    unfold dq at h
    rcases Int.mul_eq_zero.1 h with h | h
    · omega
    · exact h
  rw [Int.ediv_ediv_of_nonneg (Int.le_of_lt hp), Int.mul_comm, ← Int.ediv_ediv_of_nonneg (Int.le_of_lt hV)] at e
  have h1 := Int.ediv_nonneg h0 (Int.le_of_lt hV)
  have h2 := Int.emod_add_mul_ediv (x / V) (bp n)
  have h3 := Int.emod_lt_of_pos (x / V) hp
  rw [e, Int.mul_zero] at h2
  omega
theorem div_round {w1 wr w5 : World} {g3 gq N M i m : Nat} {x V : Int} (hR : Fresh w1 wr g3 N (dr x V (i + 1))) (hQ : Fresh w1 wr gq M (dq x V (i + 1))) (hC : Cells wr w5 g3 i (m + 1) (lz (dw x V i % V))) (hne : g3 ≠ gq) (hV : 0 < V) (hV' : V < bp m) (hi : i < M) (hN : i + m + 1 ≤ N) :
    Fresh w1 (w5.setCell ⟨gq, i, none⟩ (.int .u64 (dw x V i / V))) g3 N (dr x V i) ∧ Fresh w1 (w5.setCell ⟨gq, i, none⟩ (.int .u64 (dw x V i / V))) gq M (dq x V i) := by
  have hb : Below w1.heap.size w1 (w5.setCell ⟨gq, i, none⟩ (.int .u64 (dw x V i / V))) := below_set (hR.below.trans (hC.below hR.ge)) i hQ.ge _
  refine ⟨⟨hb, hR.ge, by rw [World.size_setCell, hC.size]; exact hR.lt, fun j hj => ?_, fun j hj => ?_⟩, ⟨hb, hQ.ge, by rw [World.size_setCell, hC.size]; exact hQ.lt, fun j hj => ?_, fun j hj => ?_⟩⟩
  · rw [Nat.zero_add, World.cell?_setCell_other w5 _ _ _ (by intro e; injection e; omega)]
    by_cases h1 : j < i
    · rw [hC.rest j (.inl h1), hR.cell' j hj, dr_low x V (by omega), dr_low x V h1]
    · by_cases h2 : j < i + (m + 1)
      · obtain ⟨t, rfl⟩ : ∃ t, j = i + t := ⟨j - i, by omega⟩
        rw [hC.cells t (by omega), dr_win i t hV]
      · obtain ⟨b1, b2⟩ := dr_bd (x := x) (n := m) i hV hV'
        obtain ⟨b3, b4⟩ := dr_bd (x := x) (n := m) (i + 1) hV hV'
        rw [hC.rest j (.inr (by omega)), hR.cell' j hj, lz_high b1 b2 (by omega), lz_high b3 b4 (by omega)]
  · rw [Nat.zero_add, World.frozen?_setCell, hC.frozen]; exact hR.free' j hj
  · rw [Nat.zero_add]
    have hc := (hC.other (i := j) hne.symm).trans (hQ.cell' j hj)
    by_cases h1 : j = i
    · subst h1; rw [World.cell?_setCell_same w5 _ _ hc, dq_at j hV]
    · rw [World.cell?_setCell_other w5 _ _ _ (by intro e; injection e; omega), hc]
      rcases Nat.lt_or_ge j i with h2 | h2
      · rw [dq_low x V h2, dq_low x V (show j < i + 1 by omega)]
      · rw [dq_high hV (show i < j by omega)]
  · rw [Nat.zero_add, World.frozen?_setCell, hC.otherF hne.symm]; exact hQ.free' j hj

set_option maxHeartbeats 1000000 in
theorem divide_less (p v q u : Value) (x y : Int) (w : World) (hu : NatV w p v x) (hv : NatV w q u y) (hxy : x < y) :
    Calls Tryz.prog 182 #[.agg #[p, v], .agg #[q, u]] w (GivesNN 0 x w) := by
  have HU := Lib.hid hu
  have HC := Lib.hid (fun W (hb : Below w.heap.size w W) => compare_any _ _ _ _ x y W (hu.below hb) (hv.below hb))
  obtain ⟨t, a, n, rfl, rfl, ht, hn, _, _, _, _⟩ := hu.form
  obtain ⟨s, b, m, rfl, rfl, hs, hm, _, _, _, _⟩ := hv.form
  rw [cmp3_lt hxy] at HC
  have hB := Box4.new w (.int .u64 t) (.slice a n n) (.int .u64 s) (.slice b m m) 72
  obtain ⟨W0, hW0⟩ : ∃ W0, W0 = ((((w.alloc (.cells #[.int .u64 t, .slice a n n] 72)).alloc (.cells #[.int .u64 s, .slice b m m] 72)).alloc (.cells #[.int .u64 0, .slice none 0 0] 72)).alloc (.cells #[.int .u64 0, .slice none 0 0] 72)) := ⟨_, rfl⟩
  rw [← hW0] at hB
  have HB := Lib.hid hB
  obtain ⟨_, _, c00, c01, c10, c11, _, _⟩ := hB
  clear hu hv ht hn hs hm
  go_enter Tryz.func182, Tryz.ntmps182
  go_wp2_with fail
  rw [← hW0]
  clear hW0
  refine (HC.out _ HB.out.below).mono ?_
  rintro e w1 ⟨rfl, hb1⟩
  have B1 := Lib.hid (HB.out.step hb1)
  clear c00 c01 c10 c11 hb1
  obtain ⟨hsz, _, c00, c01, c10, c11, ⟨r0, r1, r2, r3⟩, ⟨s0, s1, s2, s3⟩⟩ := B1.out
  go_wp2
  go_region
  all_goals
    go_wp2
    have FI := B1.out.drew.fin (NatV.zero _) (HU.out.below B1.out.drew.below)
    exact bodyPost_ret (v := .tuple #[.agg #[.int .u64 0, .slice none 0 0], .agg #[.int .u64 t, .slice a n n]]) (by simp [results, Tryz.results182, go_sem, r0, r1, s0, s1]) rfl FI

set_option maxHeartbeats 2000000 in
theorem divide_words (p v q u : Value) (x y : Int) (w : World) (hu : NatV w p v x) (hv : NatV w q u y) (hxy : y ≤ x) (hy0 : 0 < y) (hx : nl x ≤ 2) :
    Calls Tryz.prog 182 #[.agg #[p, v], .agg #[q, u]] w (GivesNN (x / y) (x % y) w) := by
  have hx0 := hu.1
  have hy : nl y ≤ 2 := Nat.le_trans (nl_mono hx0 hxy) hx
  have hx1 := (nl_word hx0).1 hx
  have hy1 := (nl_word (by omega)).1 hy
  have HW := Lib.hid (fun W (hb : Below w.heap.size w W) => isWord_yes _ _ x W (hu.below hb) hx)
  have hcmp : ∃ t, 0 ≤ t ∧ ∀ W, Below w.heap.size w W → Calls Tryz.prog 177 #[.agg #[p, v], .agg #[q, u]] W (GivesI t W) := ⟨cmp3 x y, by unfold cmp3; rw [if_neg (by omega)]; split <;> omega, fun W hb => compare_any _ _ _ _ x y W (hu.below hb) (hv.below hb)⟩
  obtain ⟨t, ht, hcmp⟩ := hcmp
  have HC := Lib.hid hcmp
  have hq0 := Int.ediv_nonneg hx0 (Int.le_of_lt hy0)
  have hq1 := Int.ediv_le_self y hx0
  have hr0 := Int.emod_nonneg x (show y ≠ 0 by omega)
  have hr1 := Int.emod_lt_of_pos x hy0
  have NQ := Lib.hid (fun W => NatV.word (w := W) hq0 ((nl_word hq0).2 (by omega)))
  have NR := Lib.hid (fun W => NatV.word (w := W) hr0 ((nl_word hr0).2 (by omega)))
  obtain ⟨rfl, rfl⟩ := hu.small hx
  obtain ⟨rfl, rfl⟩ := hv.small hy
  have hyne : ¬ y = 0 := by omega
  have hB := Box4.new w (.int .u64 x) (.slice none 0 0) (.int .u64 y) (.slice none 0 0) 72
  obtain ⟨W0, hW0⟩ : ∃ W0, W0 = ((((w.alloc (.cells #[.int .u64 x, .slice none 0 0] 72)).alloc (.cells #[.int .u64 y, .slice none 0 0] 72)).alloc (.cells #[.int .u64 0, .slice none 0 0] 72)).alloc (.cells #[.int .u64 0, .slice none 0 0] 72)) := ⟨_, rfl⟩
  rw [← hW0] at hB
  have HB := Lib.hid hB
  obtain ⟨_, _, c00, c01, c10, c11, _, _⟩ := hB
  clear hu hv hx hy hcmp hq0 hq1 hr0 hr1
  go_enter Tryz.func182, Tryz.ntmps182
  go_wp2_with fail
  rw [← hW0]
  clear hW0
  refine (HC.out _ HB.out.below).mono ?_
  rintro e w1 ⟨rfl, hb1⟩
  have B1 := Lib.hid (HB.out.step hb1)
  clear c00 c01 c10 c11 hb1
  obtain ⟨_, _, c00, c01, c10, c11, _, _⟩ := B1.out
  go_wp2_with fail
  refine (HW.out _ B1.out.below).mono ?_
  rintro e w2 ⟨rfl, rfl⟩
  have B2 := Lib.hid (B1.out.step (alloc_below w1 (.cells #[.int .u64 x, .slice none 0 0] 72)))
  generalize w1.alloc (.cells #[.int .u64 x, .slice none 0 0] 72) = W2 at *
  clear c00 c01 c10 c11
  obtain ⟨hsz, _, c00, c01, c10, c11, ⟨r0, r1, r2, r3⟩, ⟨s0, s1, s2, s3⟩⟩ := B2.out
  go_wp2
  go_region
  all_goals
    go_wp2
    have FI := B2.out.drew.fin (NQ.out _) (NR.out _)
    exact bodyPost_ret (v := .tuple #[.agg #[.int .u64 (x / y), .slice none 0 0], .agg #[.int .u64 (x % y), .slice none 0 0]]) (by simp [results, Tryz.results182, go_sem, r0, r1, s0, s1]) rfl FI
set_option maxHeartbeats 4000000 in
set_option maxRecDepth 100000 in
theorem divide_rows (p v q u : Value) (x y : Int) (w : World) (hu : NatV w p v x) (hv : NatV w q u y) (hxy : y ≤ x) (hy : 0 < y) (hx2 : 2 < nl x) (hx9 : nl x ≤ 90000) :
    Calls Tryz.prog 182 #[.agg #[p, v], .agg #[q, u]] w (GivesNN (x / y) (x % y) w) := by
  have hx0 := hu.1
  have hy0 := hv.1
  have hnl := nl_mono hx0 hxy
  have hml := nl_pos hy
  have hVl : bp (nl y - 1) ≤ y := nl_ge (by omega)
  obtain ⟨i0, hi, hz0, hz1, hz2⟩ := info_parts infoU64
  have HX0 := Lib.hid (nl_lt hx0)
  have HY0 := Lib.hid (nl_lt hy0)
  have HW := Lib.hid (fun W (hb : Below w.heap.size w W) => isWord_no _ _ x W (hu.below hb) hx2)
  have SY := Lib.hid (fun W (hb : Below w.heap.size w W) => spread_any q u y w W hv hb)
  have hcmp : ∃ t, 0 ≤ t ∧ ∀ W, Below w.heap.size w W → Calls Tryz.prog 177 #[.agg #[p, v], .agg #[q, u]] W (GivesI t W) := ⟨cmp3 x y, by unfold cmp3; rw [if_neg (by omega)]; split <;> omega, fun W hb => compare_any _ _ _ _ x y W (hu.below hb) (hv.below hb)⟩
  obtain ⟨t, ht, hcmp⟩ := hcmp
  have HC := Lib.hid hcmp
  obtain ⟨g, o, n, hn, hn2, hn3, rfl, rfl, hg, hcx⟩ := hu.large hx2
  obtain ⟨s, b, m0, rfl, rfl, hs, hm0, _, _, _, _⟩ := hv.form
  obtain ⟨m, hm⟩ : ∃ m, m = nl y := ⟨_, rfl⟩
  rw [← hn] at hnl hx9 HX0
  rw [← hm] at hnl hml hVl HY0
  have HX := HX0
  have HY := HY0
  have HVL := Lib.hid hVl
  have HCX := Lib.hid hcx
  have HM := Lib.hid hm
  have hmk := mk_u64 (n + 1 - m) (by omega)
  rw [show ((n + 1 - m : Nat) : Int) = (n : Int) + 1 - (m : Int) by omega] at hmk
  have HMK := Lib.hid hmk
  have hB := Box4.new w (.int .u64 0) (.slice (some ⟨g, o, none⟩) n n) (.int .u64 s) (.slice b m0 m0) 72
  obtain ⟨W0, hW0⟩ : ∃ W0, W0 = ((((w.alloc (.cells #[.int .u64 0, .slice (some ⟨g, o, none⟩) n n] 72)).alloc (.cells #[.int .u64 s, .slice b m0 m0] 72)).alloc (.cells #[.int .u64 0, .slice none 0 0] 72)).alloc (.cells #[.int .u64 0, .slice none 0 0] 72)) := ⟨_, rfl⟩
  rw [← hW0] at hB
  have HB := Lib.hid hB
  obtain ⟨_, _, c00, c01, c10, c11, _, _⟩ := hB
  clear hu hv hs hm0 hn hm hcx hx2 hcmp hVl hmk HX0 HY0
  go_enter Tryz.func182, Tryz.ntmps182
  go_wp2_with fail
  rw [← hW0]
  clear hW0
  refine (HC.out _ HB.out.below).mono ?_
  rintro e w1 ⟨rfl, hb1⟩
  have B1 := Lib.hid (HB.out.step hb1)
  clear c00 c01 c10 c11 hb1 HB HC
  obtain ⟨_, _, c00, c01, c10, c11, _, _⟩ := B1.out
  go_wp2_with fail
  refine (HW.out _ B1.out.below).mono ?_
  rintro e w2 ⟨rfl, rfl⟩
  have B2 := Lib.hid (B1.out.step (alloc_below w1 (.cells #[.int .u64 0, .slice (some ⟨g, o, none⟩) n n] 72)))
  generalize w1.alloc (.cells #[.int .u64 0, .slice (some ⟨g, o, none⟩) n n] 72) = W2 at *
  clear c00 c01 c10 c11 B1 HW
  obtain ⟨_, _, c00, c01, c10, c11, _, _⟩ := B2.out
  go_wp2_with fail
  refine (SY.out _ B2.out.below).mono ?_
  rintro e w3 ⟨a3, rfl, hr3, hb3⟩
  rw [← HM.out] at hr3 ⊢
  have R3 := Lib.hid hr3.row
  have B3 := Lib.hid (B2.out.step hb3)
  clear c00 c01 c10 c11 hr3 hb3 B2 SY
  obtain ⟨_, _, c00, c01, c10, c11, _, _⟩ := B3.out
  have hsz3 := B3.out.sz
  go_wp2_with fail
  refine (clone_some g o n n x w3 (by omega) (by omega) (fun j hj => (below_at B3.out.below _ hg).trans (HCX.out j hj))).mono ?_
  rintro e w4 ⟨v4, rfl, hown, hb4⟩
  have hs4 := hb4.size
  clear c00 c01 c10 c11
  go_wp2_with (at_builtin; refine wpList_append_own _ rfl _ _ 70 rfl w3.heap.size 69 i0 (.int .u64 0) 1 8 undU64s hi hz0 hz1 hz2 rfl (by decide) _ _ _ rfl (hown.alloc _) ⟨w4.heap.size, 0, none⟩ 1 1 [.int .u64 0] rfl rfl ?c1 ?c2 ?c3 ?c4 ?c5 ?_)
  case c1 =>
    intro j u hj
    match j, hj with
    | 0, hj => simp at hj; subst hj; simp [Addr.add]
  case c2 => intro u hu; simp at hu; subst hu; rfl
  case c3 => unfold maxLen; omega
  case c4 => omega
  case c5 => simp; omega
  · intro v5 w5 hown5 hgrow _
    rw [ul_snoc hx0 HX.out] at hown5
    have hb5 : Below w3.heap.size w3 w5 := (hb4.alloc hs4 _).grown hgrow (by simp; omega) (fun k hk => (hown.lt k hk).1)
    obtain ⟨g3, cap, hv3, hcap, hF⟩ := fresh_own hown5 hb5 (by omega)
    have hs5 := hb5.size
    have HF := Lib.hid hF
    clear hown hown5 hgrow hb4 hF
    subst hv3
    have hs6 := HF.out.lt
    have hF2 : Fresh w3 (w5.alloc (.cells (madeCells #[.int .u64 0] (n + 1 - m)) 69)) w5.heap.size (n + 1 - m) 0 :=
      ⟨HF.out.below.trans ((Below.refl _ _).alloc hs5 _), hs5, by simp, (Fresh.made w5 _).cells, (Fresh.made w5 _).free⟩
    have hF3 : Fresh w3 (w5.alloc (.cells (madeCells #[.int .u64 0] (n + 1 - m)) 69)) g3 (n + 1) x :=
      ⟨hF2.below, HF.out.ge, by simp; omega, fun j hj => (World.cell?_alloc_past _ _ _ hs6).trans (HF.out.cells j hj), fun j hj => (World.frozen?_alloc_past _ _ _ hs6).trans (HF.out.free j hj)⟩
    have F2 := Lib.hid hF2
    have F3 := Lib.hid hF3
    have hst := d_start (V := y) (n := m - 1) (m := n + 1 - m) hx0 (by rw [show m - 1 + (n + 1 - m) = n by omega]; exact HX.out) HVL.out
    have ST := Lib.hid hst
    have hmk := HMK.out
    clear hF2 hF3 hst HMK hb5
    go_wp2
    clear hmk
    go_loopw [10] (fun i wr => ∃ k : Nat, k ≤ n + 1 - m ∧ i = .int .i64 ((k : Int) - 1) ∧ Fresh w3 wr g3 (n + 1) (dr x y k) ∧ Fresh w3 wr w5.heap.size (n + 1 - m) (dq x y k)) (fun i _ => (intOf i + 1).toNat)
    case atStart => exact ⟨n + 1 - m, by omega, by go_num, by rw [ST.out.2]; exact F3.out, by rw [ST.out.1]; exact F2.out⟩
    case round =>
      obtain ⟨k, hk, rfl, hR, hQ⟩ := hrel
      have R := Lib.hid hR
      have Q := Lib.hid hQ
      have BX := Lib.hid (B3.out.step hR.below)
      clear hR hQ
      rcases Nat.eq_zero_or_pos k with hk0 | hk0
      · subst hk0
        have dqb := dq_bd0 (x := x) (V := y) (n := n + 1 - m) hx0 hy (by have := d_start (V := y) (n := m - 1) (m := n + 1 - m) hx0 (by rw [show m - 1 + (n + 1 - m) = n by omega]; exact HX.out) HVL.out; exact this.1)
        have drb := dr_bd (x := x) (n := m) 0 hy HY.out
        have hnm := bp_mono (show 0 + m ≤ n + 1 by omega)
        go_wp2_with fail
        refine (trim_any _ (n + 1 - m) (n + 1 - m) (dq x y 0) wr dqb.1 dqb.2 (by omega) (by omega) Q.out.row).mono ?_
        rintro e w7 ⟨p7, v7, rfl, hv7, hb7⟩
        have BY := Lib.hid (BX.out.step hb7)
        go_wp2_with fail
        refine (trim_any _ (n + 1) cap (dr x y 0) w7 drb.1 (by omega) hcap (by omega) ((R.out.row.below hb7).mono hb7.size)).mono ?_
        rintro e w8 ⟨p8, v8, rfl, hv8, hb8⟩
        have FI := Lib.hid (BY.out.step hb8)
        rw [dq_zero] at hv7
        rw [dr_zero] at hv8
        have h7 := hv7.below hb8
        have V7 := Lib.hid h7
        have V8 := Lib.hid hv8
        obtain ⟨t7, a7, n7, rfl, rfl, ht7, hn7, _, _, _, _⟩ := h7.form
        obtain ⟨t8, a8, n8, rfl, rfl, ht8, hn8, _, _, _, _⟩ := hv8.form
        have HT7 := Lib.hid ht7
        have HN7 := Lib.hid hn7
        have HT8 := Lib.hid ht8
        have HN8 := Lib.hid hn8
        clear hv7 hv8 h7 hb7 hb8 ht7 hn7 ht8 hn8 dqb drb
        obtain ⟨_, _, _, _, _, _, ⟨r0, r1, r2, r3⟩, ⟨s0, s1, s2, s3⟩⟩ := FI.out
        go_wp2
        exact bodyPost_ret (v := .tuple #[.agg #[.int .u64 t7, .slice a7 n7 n7], .agg #[.int .u64 t8, .slice a8 n8 n8]]) (by simp [results, Tryz.results182, go_sem, r0, r1, s0, s1]) rfl (FI.out.fin V7.out V8.out)
      · obtain ⟨i, rfl⟩ : ∃ i, k = i + 1 := ⟨k - 1, by omega⟩
        rw [show (((i + 1 : Nat) : Int) - 1) = (i : Int) by omega]
        have hsl := slice_win g3 i m (n + 1) cap (by omega)
        have hC1 : ∀ j, j < m + 1 → wr.cell? ⟨g3, i + j, none⟩ = some (.int .u64 (lz (dw x y i) j)) := fun j hj => by rw [R.out.cell' (i + j) (by omega), dr_win']
        have hC2 : ∀ j, j < m + 1 → wr.frozen? ⟨g3, i + j, none⟩ = false := fun j hj => R.out.free' (i + j) (by omega)
        have HC1 := Lib.hid hC1
        have HC2 := Lib.hid hC2
        have hQ1 := Q.out.cell' i (by omega)
        have hQ2 := Q.out.free' i (by omega)
        have HQ1 := Lib.hid hQ1
        have HQ2 := Lib.hid hQ2
        have hg3 := R.out.ge
        have hgq : g3 ≠ w5.heap.size := by omega
        have HR9 : Hid (RowX wr g3 a3 m y) := (R3.out.below R.out.below |>.mono hg3).x
        obtain ⟨hd0, hd1⟩ := dw_bd (x := x) i hy
        have i1 : (0 : Int) ≤ (i : Int) := by omega
        have i2 : (i : Int) < ((n + 1 - m : Nat) : Int) := by omega
        have j1 : IntKind.i64.wrap ((i : Int) + (m : Int)) = (i : Int) + (m : Int) := by rw [IntKind.wrap_i64]; omega
        have j2 : IntKind.i64.wrap ((i : Int) + (m : Int) + 1) = (i : Int) + (m : Int) + 1 := by rw [IntKind.wrap_i64]; omega
        clear hC1 hC2 hQ1 hQ2
        go_wp2_with fail
        refine (reduce_any g3 i (m + 1) a3 m m (dw x y i) y _ (by omega) (by omega) hd0 hd1 HY.out HVL.out (by exact HC1.out) (by exact HC2.out) (by exact HR9.out)).mono ?_
        rintro e w9 ⟨rfl, hC⟩
        have C5 := Lib.hid hC
        have q1 := (hC.other (i := i) hgq.symm).trans HQ1.out
        have q2 := (hC.otherF (i := i) hgq.symm).trans HQ2.out
        clear hC
        go_wp2
        go_roundw
        case rel =>
          have hh := div_round R.out Q.out C5.out hgq hy HY.out (by omega) (by omega)
          exact ⟨i, by omega, rfl, hh.1, hh.2⟩
        case measure => simp [intOf]
theorem divide_any (p v q u : Value) (x y : Int) (w : World) (hu : NatV w p v x) (hv : NatV w q u y) (hy : 0 < y) (hx9 : nl x ≤ 90000) :
    Calls Tryz.prog 182 #[.agg #[p, v], .agg #[q, u]] w (GivesNN (x / y) (x % y) w) := by
  rcases Int.lt_or_le x y with h | h
  · rw [Int.ediv_eq_zero_of_lt hu.1 h, Int.emod_eq_of_lt hu.1 h]
    exact divide_less p v q u x y w hu hv h
  · rcases Nat.lt_or_ge 2 (nl x) with h2 | h2
    · exact divide_rows p v q u x y w hu hv h hy h2 hx9
    · exact divide_words p v q u x y w hu hv h hy h2
end Go.Proofs.YtkhebidmfjbhaaaGreatDoor
namespace Go.Proofs.YtkhebidmfjbhaaaGreatDoor

section
variable {P : Program} {ops : Array Oper} {Q : Exit → Act → World → Prop} {md : Region.Mode} {S : World → Prop} {M : Nat}

/-- Whatever order is picked, and S holds behind every operation as long as operation M has not come up. -/
def wpTill (P : Program) (md : Region.Mode) (ops : Array Oper) (Q : Exit → Act → World → Prop) (S : World → Prop) (M : Nat) : Nat → Array Bool → Act → World → Prop
  | 0, listed, a, w => Region.ready md ops listed = [] ∧ Q .normal a w
  | fuel + 1, listed, a, w => (Region.ready md ops listed = [] → Q .normal a w) ∧
    ∀ i, i ∈ Region.ready md ops listed → wpOp P ops Q i (fun a' w' => ((listed.setIfInBounds i true).getD M true = false → S w') ∧ wpTill P md ops Q S M fuel (listed.setIfInBounds i true) a' w') a w

theorem wpTill.any : ∀ (fuel : Nat) (listed : Array Bool) (a : Act) (w : World), wpTill P md ops Q S M fuel listed a w → wpAny P md ops Q fuel listed a w
  | 0, _, _, _, h => h
  | n + 1, _, _, _, h => ⟨h.1, fun i hi => wpOp_mono (fun _ _ k => wpTill.any n _ _ _ k.2) (h.2 i hi)⟩

/-- The operations of D wait, in a chain, for operation i. -/
def chained (md : Region.Mode) (ops : Array Oper) (D : List Nat) (i : Nat) : Bool :=
  D.all fun d => d == i || match ops[d]? with
    | some o => o.after.any fun e => Region.binds md e && D.contains e.on
    | none => false

theorem chained_not {D : List Nat} {i j : Nat} {listed : Array Bool} (h : chained md ops D i = true) (hu : ∀ d, d ∈ D → listed.getD d true = false) (hj : j ∈ Region.ready md ops listed) (hne : j ≠ i) : j ∉ D := by
  intro hD
  obtain ⟨_, oj, hoj, hw⟩ := mem_ready.1 hj
  have h1 := List.all_eq_true.1 h j hD
  rw [hoj] at h1
  rw [Bool.or_eq_true] at h1
  rcases h1 with h1 | h1
  · exact hne (by simpa using h1)
  · obtain ⟨k, hk, he⟩ := Array.any_eq_true.1 h1
    rw [Bool.and_eq_true] at he
    have h2 := hw _ (Array.getElem_mem hk) he.1
    have h3 := hu _ (by simpa using he.2)
    rcases Nat.lt_or_ge (oj.after[k]).on listed.size with q | q
    · simp [q] at h2 h3
      rw [h2] at h3
      cases h3
    · simp [Array.getElem?_eq_none q] at h2

/-- Where operation i may come up and another one comes up before it. -/
theorem not_after {i : Nat} {oj : Oper} {listed : Array Bool} (hr : i ∈ Region.ready md ops listed) (hw : ∀ e ∈ oj.after, Region.binds md e = true → listed.getD e.on false = true) : ∀ e ∈ oj.after, Region.binds md e = true → e.on ≠ i := by
  intro e he hb hei
  have p1 := hw e he hb
  have p0 := (mem_ready.1 hr).1
  rw [hei] at p1
  rcases Nat.lt_or_ge i listed.size with q | q
  · simp [q] at p0 p1
    rw [p0] at p1
    cases p1
  · simp [Array.getElem?_eq_none q] at p1

/-- What lets operation i be taken first by T: T holds in whatever world, or it is S, and operation M waits for i in a chain. -/
def TakeOk (md : Region.Mode) (ops : Array Oper) (S T : World → Prop) (M i : Nat) (D : List Nat) (listed : Array Bool) : Prop :=
  (∀ w, T w) ∨ ((∀ w, S w → T w) ∧ M ∈ D ∧ chained md ops D i = true ∧ ∀ d, d ∈ D → listed.getD d true = false)
theorem TakeOk.next {T : World → Prop} {i j : Nat} {D : List Nat} {listed : Array Bool} (h : TakeOk md ops S T M i D listed) (hj : j ∈ Region.ready md ops listed) (hne : j ≠ i) : TakeOk md ops S T M i D (listed.setIfInBounds j true) := by
  rcases h with h | ⟨h1, h2, h3, h4⟩
  · exact Or.inl h
  · refine Or.inr ⟨h1, h2, h3, fun d hd => ?_⟩
    have hjd : j ≠ d := fun e => chained_not h3 h4 hj hne (e ▸ hd)
    rw [getD_set_ne true hjd]
    exact h4 d hd
theorem TakeOk.holds {T : World → Prop} {i : Nat} {D : List Nat} {listed : Array Bool} (h : TakeOk md ops S T M i D listed) {w : World} (hS : listed.getD M true = false → S w) : T w := by
  rcases h with h | ⟨h1, h2, _, h4⟩
  · exact h w
  · exact h1 w (hS (h4 M h2))

/-- An operation that may come up now may be taken first, if it yields its value in every world that meets T, and T holds behind whatever may come before it. -/
theorem wpTill.first {i : Nat} {oi : Oper} {v : Value} {T : World → Prop} {D : List Nat} (hi : ops[i]? = some oi) (hM : M ≠ i)
    (hsel : ∀ (j : Nat) (o : Oper) cs b, ops[j]? = some o → o.op ≠ .select cs b)
    (hQ : ∀ c a w, Q (.panic c) (a.put oi.dst v) w → Q (.panic c) a w) :
    ∀ (fuel : Nat) (listed : Array Bool) (a : Act) (w : World),
      (∀ j oj, ops[j]? = some oj → j ≠ i → listed.getD j true = false → (∀ e ∈ oj.after, Region.binds md e = true → e.on ≠ i) → oi.apart ops oj = true) →
      i ∈ Region.ready md ops listed → TakeOk md ops S T M i D listed → YieldsIf P ops T oi v a → (listed.getD M true = false → S w) →
      wpTill P md ops Q S M fuel (listed.setIfInBounds i true) (a.put oi.dst v) w → wpTill P md ops Q S M (fuel + 1) listed a w
  | fuel, listed, a, w, hap, hr, hB, hy, hS, H => by
    refine ⟨fun e => absurd hr (by rw [e]; exact List.not_mem_nil), fun j hj => ?_⟩
    rcases Decidable.em (j = i) with hji | hne
    · subst hji
      refine hy.wpOp hi (hB.holds hS) ⟨fun h => ?_, H⟩
      rw [getD_set_ne true (Ne.symm hM)] at h
      exact hS h
    · obtain ⟨hu, oj, hoj, hw⟩ := mem_ready.1 hj
      have hno := not_after hr hw
      have hrest := ready_mono hj hne
      cases fuel with
      | zero =>
        rw [H.1] at hrest
        cases hrest
      | succ n =>
        have h2 := wpOp_putIf hoj (hap j oj hoj hne hu hno) (fun cs b => hsel i oi cs b hi) (fun cs b => hsel j oj cs b hoj) hQ hy (H.2 j hrest)
        refine wpOp_mono (fun a' w' k => ?_) h2
        obtain ⟨k1, k2, k3⟩ := k
        have hS' : (listed.setIfInBounds j true).getD M true = false → S w' := fun h => k2 (by
          rw [Array.setIfInBounds_comm _ _ (Ne.symm hne), getD_set_ne true (Ne.symm hM)]
          exact h)
        refine ⟨hS', wpTill.first hi hM hsel hQ n (listed.setIfInBounds j true) a' w' (fun k ok hk hki hun hn => ?_) (ready_mono hr (Ne.symm hne)) (hB.next hj hne) k1 hS' (by rw [Array.setIfInBounds_comm _ _ hne]; exact k3)⟩
        refine hap k ok hk hki ?_ hn
        rcases Decidable.em (j = k) with e | e
        · exact e ▸ hu
        · rwa [getD_set_ne true e] at hun

/-- Operation i yields its value in whatever world. -/
theorem till_any {i : Nat} {oi : Oper} {v : Value} {fuel : Nat} {listed : Array Bool} {a : Act} {w : World} (hi : ops[i]? = some oi) (hM : (M == i) = false)
    (hs : Region.noSelect ops = true) (hf : Region.free md ops listed i = true) (hr : (Region.ready md ops listed).contains i = true)
    (hQ : ∀ c a w, Q (.panic c) (a.put oi.dst v) w → Q (.panic c) a w) (hS : S w) (hy : YieldsIf P ops (fun _ => True) oi v a)
    (h : wpTill P md ops Q S M fuel (listed.setIfInBounds i true) (a.put oi.dst v) w) : wpTill P md ops Q S M (fuel + 1) listed a w :=
  wpTill.first (D := []) hi (by simpa using hM) (Region.noSelect_spec hs) hQ fuel listed a w (Region.free_spec hi hf) (by simpa using hr) (Or.inl fun _ => trivial) hy (fun _ => hS) h
/-- Operation i yields its value in every world that meets S, and M waits for it. -/
theorem till_held {i : Nat} {oi : Oper} {v : Value} {fuel : Nat} {listed : Array Bool} {a : Act} {w : World} (D : List Nat) (hi : ops[i]? = some oi) (hM : (M == i) = false)
    (hs : Region.noSelect ops = true) (hf : Region.free md ops listed i = true) (hr : (Region.ready md ops listed).contains i = true)
    (hD : (D.contains M && chained md ops D i && D.all fun d => !(listed.getD d true)) = true)
    (hQ : ∀ c a w, Q (.panic c) (a.put oi.dst v) w → Q (.panic c) a w) (hS : S w) (hy : YieldsIf P ops S oi v a)
    (h : wpTill P md ops Q S M fuel (listed.setIfInBounds i true) (a.put oi.dst v) w) : wpTill P md ops Q S M (fuel + 1) listed a w := by
  rw [Bool.and_eq_true, Bool.and_eq_true] at hD
  refine wpTill.first (D := D) hi (by simpa using hM) (Region.noSelect_spec hs) hQ fuel listed a w (Region.free_spec hi hf) (by simpa using hr) (Or.inr ⟨fun _ h => h, by simpa using hD.1.1, hD.1.2, fun d hd => ?_⟩) hy (fun _ => hS) h
  have := List.all_eq_true.1 hD.2 d hd
  simpa using this
/-- One operation alone may come up. -/
theorem till_one {i : Nat} {o : Oper} {fuel : Nat} {listed : Array Bool} {a : Act} {w : World} (ho : ops[i]? = some o) (hr : Region.ready md ops listed = [i])
    (h : ∀ K' : Act → World → Prop, Shut (∀ a w, ((listed.setIfInBounds i true).getD M true = false → S w) ∧ wpTill P md ops Q S M fuel (listed.setIfInBounds i true) a w → K' a w) → if Region.wanted o (yielded ops a.tmps) = true then Oper.wp P o a w K' Q else K' (a.put o.dst undef) w) :
    wpTill P md ops Q S M (fuel + 1) listed a w := by
  refine ⟨fun e => absurd (hr.symm.trans e) (by simp), fun j hj => ?_⟩
  rw [hr] at hj
  obtain rfl := List.mem_singleton.1 hj
  exact wpOp_step ho h
theorem till_done {fuel : Nat} {listed : Array Bool} {a : Act} {w : World} (hr : Region.ready md ops listed = []) (h : Q .normal a w) : wpTill P md ops Q S M fuel listed a w := by
  cases fuel with
  | zero => exact ⟨hr, h⟩
  | succ n => exact ⟨fun _ => h, fun i hi => by rw [hr] at hi; cases hi⟩
theorem region_till {id : Nat} {a : Act} {w : World} (S : World → Prop) (M : Nat) (hm : P.follows .mixedOrders = true)
    (h : wpTill P .any ops Q S M ops.size (Array.replicate ops.size false) a w.drew) : (Code.region id ops true).wp P Q a w :=
  wp_region_any hm (wpTill.any _ _ _ _ h)
end
end Go.Proofs.YtkhebidmfjbhaaaGreatDoor
namespace Go.Proofs.YtkhebidmfjbhaaaGreatDoor
open Go.RowKit

/-- The call hands back two integers. -/
def GivesZZ (x y : Int) (w : World) (e : Ending) (w' : World) : Prop := ∃ p v q u, e = .returned (.tuple #[.agg #[p, v, .bool (decide (x < 0))], .agg #[q, u, .bool (decide (y < 0))]]) ∧ NatV w' p v x.natAbs ∧ NatV w' q u y.natAbs ∧ Below w.heap.size w w'
/-- The box r of the call's own holds an integer. -/
structure Num3 (w : World) (r : Nat) (p v : Value) (s : Bool) : Prop where
  c0 : w.cell? ⟨r, 0, none⟩ = some p
  c1 : w.cell? ⟨r, 1, none⟩ = some v
  c2 : w.cell? ⟨r, 2, none⟩ = some (.bool s)
  f0 : w.frozen? ⟨r, 0, none⟩ = false
  f1 : w.frozen? ⟨r, 1, none⟩ = false
  f2 : w.frozen? ⟨r, 2, none⟩ = false
theorem Res.num {w : World} {r : Nat} (h : Res w r) : Num3 w r (.int .u64 0) (.slice none 0 0) false := ⟨h.c0, h.c1, h.c2, h.f0, h.f1, h.f2⟩
theorem Num3.below {B : Nat} {w w' : World} {r : Nat} {p v : Value} {s : Bool} (h : Num3 w r p v s) (hb : Below B w w') (hr : r < B) : Num3 w' r p v s :=
  ⟨(below_at hb 0 hr).trans h.c0, (below_at hb 1 hr).trans h.c1, (below_at hb 2 hr).trans h.c2, (below_atF hb 0 hr).trans h.f0, (below_atF hb 1 hr).trans h.f1, (below_atF hb 2 hr).trans h.f2⟩
/-- Three stores. -/
def wr3 (w : World) (r : Nat) (p v : Value) (s : Bool) : World := ((w.setCell ⟨r, 0, none⟩ p).setCell ⟨r, 1, none⟩ v).setCell ⟨r, 2, none⟩ (.bool s)
theorem wr3_size (w : World) (r : Nat) (p v : Value) (s : Bool) : (wr3 w r p v s).heap.size = w.heap.size := by unfold wr3; simp
theorem wr3_frozen (w : World) (r : Nat) (p v : Value) (s : Bool) (a : Addr) : (wr3 w r p v s).frozen? a = w.frozen? a := by unfold wr3; rw [World.frozen?_setCell, World.frozen?_setCell, World.frozen?_setCell]
theorem wr3_far {w : World} {r k o : Nat} {p v : Value} {s : Bool} (h : k ≠ r) : (wr3 w r p v s).cell? ⟨k, o, none⟩ = w.cell? ⟨k, o, none⟩ := far3 h
theorem wr3_below {w W : World} {B r : Nat} {p v : Value} {s : Bool} (h : Below B w W) (hr : B ≤ r) : Below B w (wr3 W r p v s) := below_set (below_set (below_set h 0 hr _) 1 hr _) 2 hr _
theorem Num3.far {w : World} {r k : Nat} {p v p' v' : Value} {s s' : Bool} (h : Num3 w k p v s) (hk : k ≠ r) : Num3 (wr3 w r p' v' s') k p v s :=
  ⟨(wr3_far hk).trans h.c0, (wr3_far hk).trans h.c1, (wr3_far hk).trans h.c2, (wr3_frozen ..).trans h.f0, (wr3_frozen ..).trans h.f1, (wr3_frozen ..).trans h.f2⟩
theorem Num3.put {w : World} {r : Nat} {p v : Value} {s : Bool} (h : Num3 w r p v s) (p' v' : Value) (s' : Bool) : Num3 (wr3 w r p' v' s') r p' v' s' := by
  refine ⟨?_, ?_, ?_, (wr3_frozen ..).trans h.f0, (wr3_frozen ..).trans h.f1, (wr3_frozen ..).trans h.f2⟩
  · unfold wr3
    rw [World.cell?_setCell_other _ _ _ _ (by intro e; injection e; omega), World.cell?_setCell_other _ _ _ _ (by intro e; injection e; omega)]
    exact World.cell?_setCell_same _ _ _ h.c0
  · unfold wr3
    rw [World.cell?_setCell_other _ _ _ _ (by intro e; injection e; omega)]
    exact World.cell?_setCell_same _ _ _ (u := v) (by rw [World.cell?_setCell_other _ _ _ _ (by intro e; injection e; omega)]; exact h.c1)
  · unfold wr3
    exact World.cell?_setCell_same _ _ _ (u := .bool s) (by rw [World.cell?_setCell_other _ _ _ _ (by intro e; injection e; omega), World.cell?_setCell_other _ _ _ _ (by intro e; injection e; omega)]; exact h.c2)
theorem NatV.through {w : World} {p v p1 v1 p' v' : Value} {x y : Int} {r : Nat} {s s' : Bool} (h : NatV w p v x) (hr : Num3 w r p1 v1 s) (h1 : NatV w p1 v1 y) : NatV (wr3 w r p' v' s') p v x := by
  obtain ⟨_, a, n, rfl, rfl, _, _, _, _, _, _⟩ := h1.form
  exact h.put3 hr.c1 hr.c2 _ _ _
/-- The boxes of two integers and those of two results, from the end of w on, and the numbers in them. -/
structure DT (w W : World) (p v : Value) (b : Bool) (q u : Value) (c : Bool) (A1 A2 : Value) (A3 : Bool) (C1 C2 : Value) (C3 : Bool) (y a d : Int) : Prop where
  sz : w.heap.size + 1 + 1 + 1 < W.heap.size
  below : Below w.heap.size w W
  p0 : W.cell? ⟨w.heap.size, 0, none⟩ = some p
  p1 : W.cell? ⟨w.heap.size, 1, none⟩ = some v
  p2 : W.cell? ⟨w.heap.size, 2, none⟩ = some (.bool b)
  q0 : W.cell? ⟨w.heap.size + 1, 0, none⟩ = some q
  q1 : W.cell? ⟨w.heap.size + 1, 1, none⟩ = some u
  q2 : W.cell? ⟨w.heap.size + 1, 2, none⟩ = some (.bool c)
  r : Num3 W (w.heap.size + 1 + 1) A1 A2 A3
  t : Num3 W (w.heap.size + 1 + 1 + 1) C1 C2 C3
  nv : NatV W q u y
  na : NatV W A1 A2 a
  nc : NatV W C1 C2 d
theorem DT.new (w : World) (p v : Value) (b : Bool) (q u : Value) (c : Bool) (y : Int) (hv : NatV w q u y) (T : TypeId) :
    DT w ((((w.alloc (.cells #[p, v, .bool b] T)).alloc (.cells #[q, u, .bool c] T)).alloc (.cells #[.int .u64 0, .slice none 0 0, .bool false] T)).alloc (.cells #[.int .u64 0, .slice none 0 0, .bool false] T)) p v b q u c (.int .u64 0) (.slice none 0 0) false (.int .u64 0) (.slice none 0 0) false y 0 0 := by
  have h := Box3.new w p v b q u c T
  have hb := alloc_below (((w.alloc (.cells #[p, v, .bool b] T)).alloc (.cells #[q, u, .bool c] T)).alloc (.cells #[.int .u64 0, .slice none 0 0, .bool false] T)) (.cells #[.int .u64 0, .slice none 0 0, .bool false] T)
  have h2 := h.step hb
  exact ⟨by simp, h2.below, h2.p0, h2.p1, h2.p2, h2.q0, h2.q1, h2.q2, h2.res.num, (Res.new _ _ _ (by simp)).num, hv.below h2.below, NatV.zero _, NatV.zero _⟩
theorem DT.step {w W W' : World} {p v q u A1 A2 C1 C2 : Value} {b c A3 C3 : Bool} {y a d : Int} (h : DT w W p v b q u c A1 A2 A3 C1 C2 C3 y a d) (hb : Below W.heap.size W W') : DT w W' p v b q u c A1 A2 A3 C1 C2 C3 y a d := by
  have h1 := h.sz
  exact ⟨by have := hb.size; omega, h.below.trans (hb.mono (by omega)), (below_at hb 0 (by omega)).trans h.p0, (below_at hb 1 (by omega)).trans h.p1, (below_at hb 2 (by omega)).trans h.p2, (below_at hb 0 (by omega)).trans h.q0, (below_at hb 1 (by omega)).trans h.q1, (below_at hb 2 (by omega)).trans h.q2, h.r.below hb (by omega), h.t.below hb (by omega), h.nv.below hb, h.na.below hb, h.nc.below hb⟩
/-- Both results are stored. -/
theorem DT.put {w W : World} {p v q u A1 A2 C1 C2 : Value} {b c A3 C3 : Bool} {y a d : Int} (h : DT w W p v b q u c A1 A2 A3 C1 C2 C3 y a d) {P1 P2 R1 R2 : Value} {a' d' : Int} (ha : NatV W P1 P2 a') (hd : NatV W R1 R2 d') (s t : Bool) :
    DT w (wr3 (wr3 W (w.heap.size + 1 + 1) P1 P2 s) (w.heap.size + 1 + 1 + 1) R1 R2 t) p v b q u c P1 P2 s R1 R2 t y a' d' := by
  have hn : w.heap.size + 1 + 1 + 1 ≠ w.heap.size + 1 + 1 := by omega
  have ht : Num3 (wr3 W (w.heap.size + 1 + 1) P1 P2 s) (w.heap.size + 1 + 1 + 1) C1 C2 C3 := h.t.far hn
  have key : ∀ {X Y : Value} {z : Int}, NatV W X Y z → NatV (wr3 (wr3 W (w.heap.size + 1 + 1) P1 P2 s) (w.heap.size + 1 + 1 + 1) R1 R2 t) X Y z := fun hz => (hz.through h.r h.na).through ht (h.nc.through h.r h.na)
  exact ⟨by rw [wr3_size, wr3_size]; exact h.sz, wr3_below (wr3_below h.below (by omega)) (by omega), (wr3_far (by omega)).trans ((wr3_far (by omega)).trans h.p0), (wr3_far (by omega)).trans ((wr3_far (by omega)).trans h.p1), (wr3_far (by omega)).trans ((wr3_far (by omega)).trans h.p2), (wr3_far (by omega)).trans ((wr3_far (by omega)).trans h.q0), (wr3_far (by omega)).trans ((wr3_far (by omega)).trans h.q1), (wr3_far (by omega)).trans ((wr3_far (by omega)).trans h.q2), (h.r.put _ _ _).far (by omega), ht.put _ _ _, key h.nv, key ha, key hd⟩
/-- The boxes of quotient and remainder, too. -/
structure DS (w W : World) (p v : Value) (b : Bool) (q u : Value) (c : Bool) (n1 n2 m1 m2 : Value) (y n m : Int) (k : Nat) : Prop where
  dt : DT w W p v b q u c (.int .u64 0) (.slice none 0 0) false (.int .u64 0) (.slice none 0 0) false y 0 0
  gt : w.heap.size + 1 + 1 + 1 < k
  lt : k + 1 < W.heap.size
  k0 : W.cell? ⟨k, 0, none⟩ = some n1
  k1 : W.cell? ⟨k, 1, none⟩ = some n2
  l0 : W.cell? ⟨k + 1, 0, none⟩ = some m1
  l1 : W.cell? ⟨k + 1, 1, none⟩ = some m2
  nq : NatV W n1 n2 n
  nr : NatV W m1 m2 m
theorem DS.step {w W W' : World} {p v q u n1 n2 m1 m2 : Value} {b c : Bool} {y n m : Int} {k : Nat} (h : DS w W p v b q u c n1 n2 m1 m2 y n m k) (hb : Below W.heap.size W W') : DS w W' p v b q u c n1 n2 m1 m2 y n m k := by
  have h1 := h.lt
  exact ⟨h.dt.step hb, h.gt, by have := hb.size; omega, (below_at hb 0 (by omega)).trans h.k0, (below_at hb 1 (by omega)).trans h.k1, (below_at hb 0 (by omega)).trans h.l0, (below_at hb 1 (by omega)).trans h.l1, h.nq.below hb, h.nr.below hb⟩
theorem DT.box {w w1 : World} {p v q u n1 n2 m1 m2 : Value} {b c : Bool} {y n m : Int} (h : DT w w1 p v b q u c (.int .u64 0) (.slice none 0 0) false (.int .u64 0) (.slice none 0 0) false y 0 0) (hn : NatV w1 n1 n2 n) (hm : NatV w1 m1 m2 m) (T : TypeId) :
    DS w ((w1.alloc (.cells #[n1, n2] T)).alloc (.cells #[m1, m2] T)) p v b q u c n1 n2 m1 m2 y n m w1.heap.size := by
  have ha := (alloc_below w1 (.cells #[n1, n2] T)).trans ((alloc_below _ (.cells #[m1, m2] T)).mono (by simp))
  have h1 := h.sz
  exact ⟨h.step ha, h1, by simp, by rw [World.cell?_alloc_past _ _ _ (by simp), World.cell?_alloc_new]; rfl, by rw [World.cell?_alloc_past _ _ _ (by simp), World.cell?_alloc_new]; rfl, by rw [World.cell?_alloc_at _ _ _ _ (by simp)]; rfl, by rw [World.cell?_alloc_at _ _ _ _ (by simp)]; rfl, hn.below ha, hm.below ha⟩
theorem giveZZ {w W : World} {p v q u A1 A2 C1 C2 : Value} {b c A3 C3 : Bool} {y a d X Y : Int} (h : DT w W p v b q u c A1 A2 A3 C1 C2 C3 y a d) (hX : a = X.natAbs) (hY : d = Y.natAbs) (h3 : A3 = decide (X < 0)) (h4 : C3 = decide (Y < 0)) :
    GivesZZ X Y w (.returned (.tuple #[.agg #[A1, A2, .bool A3], .agg #[C1, C2, .bool C3]])) W :=
  ⟨A1, A2, C1, C2, by rw [h3, h4], by rw [← hX]; exact h.na, by rw [← hY]; exact h.nc, h.below⟩
end Go.Proofs.YtkhebidmfjbhaaaGreatDoor
