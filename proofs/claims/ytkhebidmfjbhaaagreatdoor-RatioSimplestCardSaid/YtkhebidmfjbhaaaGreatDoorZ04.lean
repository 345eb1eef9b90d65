/-
  slices.Clone, the difference and the comparison of natural numbers.
  The comparison of natural numbers, their number of digits, and their products.
  The number of decimal digits of a natural number.
  What integer.word and integer.collect return: the number with these digits.
-/
import Derived.Test.YtkhebidmfjbhaaaGreatDoorZ03
import Derived.Lib.SliceRun
import Derived.Shelf.Small.Wraps
import Derived.Test.YtkhebidmfjbhaaaGreatDoorZ02
namespace Go.Proofs.YtkhebidmfjbhaaaGreatDoor
open Go.RowKit

/-- The lowest n limbs of x as cells. -/
def ul (x : Int) (n : Nat) : List Value := (List.range n).map fun j => .int .u64 (lz x j)
theorem ul_length (x : Int) (n : Nat) : (ul x n).length = n := by simp [ul]
theorem ul_get (x : Int) (n j : Nat) (h : j < n) : (ul x n)[j]? = some (.int .u64 (lz x j)) := by simp [ul, h]
theorem ul_one (x : Int) (n : Nat) : ∀ u ∈ ul x n, u.oneCell' = true := by
  intro u hu
  simp only [ul, List.mem_map] at hu
  obtain ⟨j, _, rfl⟩ := hu
  rfl
theorem ul_snoc {x : Int} {n : Nat} (h0 : 0 ≤ x) (h1 : x < bp n) : ul x n ++ [.int .u64 0] = ul x (n + 1) := by
  unfold ul
  rw [List.range_succ, List.map_append, List.map_singleton, lz_high h0 h1 (Nat.le_refl _)]
/-- A row of the call's own that holds the limbs of x. -/
theorem fresh_own {w w1 : World} {v : Value} {n : Nat} {x : Int} (h : w1.ownsRow w.heap.size 69 1 v n (ul x n)) (hb : Below w.heap.size w w1) (hn : 0 < n) :
    ∃ g cap, v = .slice (some ⟨g, 0, none⟩) n cap ∧ n ≤ cap ∧ Fresh w w1 g n x := by
  rcases h.2 with ⟨_, h0⟩ | ⟨g, cap, cur, hv, hg, hh, hnc, _, _, _⟩
  · omega
  · subst hv
    refine ⟨g, cap, rfl, hnc, hb, hg, (Array.getElem?_eq_some_iff.1 hh).1, fun j hj => ?_, fun j _ => ?_⟩
    · rw [Nat.zero_add, h.cellAt j (by omega), ul_get x n j hj]
    · rw [Nat.zero_add, h.frozenAt]

theorem own_empty (w : World) : (w.alloc (.cells #[] 69)).ownsRow w.heap.size 69 1 (.slice (some ⟨w.heap.size, 0, none⟩) 0 0) 0 [] :=
  ⟨rfl, .inr ⟨w.heap.size, 0, #[], rfl, Nat.le_refl _, by show (w.heap.push _)[w.heap.size]? = _; simp, Nat.le_refl _, Nat.zero_le _, rfl, rfl⟩⟩
/-- The call hands back a row of its own. -/
def GivesO (x : Int) (n : Nat) (w : World) (e : Ending) (w' : World) : Prop := ∃ v, e = .returned v ∧ w'.ownsRow w.heap.size 69 1 v n (ul x n) ∧ Below w.heap.size w w'

theorem clone_some (g o n c : Nat) (x : Int) (w : World) (hn : n ≤ 100000) (hg : g < w.heap.size) (hc : ∀ j, j < n → w.cell? ⟨g, o + j, none⟩ = some (.int .u64 (lz x j))) :
    Calls Tryz.prog 208 #[.slice (some ⟨g, o, none⟩) n c] w (GivesO x n w) := by
  obtain ⟨i0, hi, hz0, hz1, hz2⟩ := info_parts infoU64
  have hnews : ∀ j u, (ul x n)[j]? = some u → (w.alloc (.cells #[] 69)).cell? ((⟨g, o, none⟩ : Addr).add j) = some u := by
    intro j u hu
    rw [WideShapes.add_plain, World.cell?_alloc_past _ _ _ hg]
    have hj : j < n := by
      rcases Nat.lt_or_ge j n with h | h
      · exact h
      · rw [List.getElem?_eq_none (by rw [ul_length]; exact h)] at hu; cases hu
    rw [ul_get x n j hj] at hu
    rw [hc j hj, hu]
  have q22 : ∀ (w : World) (a : Option Addr) (n c n' c' : Nat), (binOp .eql 70 (.slice a n c) (.slice none n' c')).run Tryz.prog w = .ok (.bool a.isNone) w := fun w a n c n' c' => Lib.run_eql_slice_nil w _ _ a n c n' c' undU64s
  have HN := Lib.hid hnews
  clear hc hnews
  go_enter Tryz.func208, Tryz.ntmps208
  go_wp2_with (at_builtin; refine wpList_append_own _ rfl _ _ 70 rfl w.heap.size 69 i0 (.int .u64 0) 1 8 undU64s hi hz0 hz1 hz2 rfl (by decide) _ _ _ rfl (own_empty w) ⟨g, o, none⟩ n c (ul x n) rfl ?c0 HN.out ?c2 ?c3 ?c4 ?c5 ?_)
  case c0 => rw [ul_length]; omega
  case c2 => exact ul_one x n
  case c3 => unfold maxLen; omega
  case c4 => omega
  case c5 => simp
  · intro v' w1 hown' hgrow _
    have hown : w1.ownsRow w.heap.size 69 1 v' n (ul x n) := by simpa using hown'
    have hb : Below w.heap.size w w1 := ((Below.refl _ _).alloc (Nat.le_refl _) _).grown hgrow (by simp) (fun k hk => by cases hk; exact Nat.le_refl _)
    have HI := Lib.hid hown
    have HB := Lib.hid hb
    clear hown hown' hgrow hb HN
    go_wp2
    go_ret
    exact ⟨_, rfl, HI.out, HB.out⟩

/-! ### difference -/
theorem difference_words (p v q u : Value) (x y : Int) (w : World) (hu : NatV w p v x) (hv : NatV w q u y) (hxy : y ≤ x) (hx : nl x ≤ 2) :
    Calls Tryz.prog 180 #[.agg #[p, v], .agg #[q, u]] w (GivesN (x - y) w) := by
  have hx0 := hu.1
  have hy0 := hv.1
  have hy : nl y ≤ 2 := Nat.le_trans (nl_mono hx0 hxy) hx
  have hd : nl (x - y) ≤ 2 := Nat.le_trans (nl_mono hx0 (by omega)) hx
  have hx1 := (nl_word hx0).1 hx
  have hw1 := fun W (hb : Below w.heap.size w W) => isWord_yes _ _ x W (hu.below hb) hx
  obtain ⟨rfl, rfl⟩ := hu.small hx
  obtain ⟨rfl, rfl⟩ := hv.small hy
  have HW1 := Lib.hid hw1
  have hB := Box2.new w (.int .u64 x) (.slice none 0 0) (.int .u64 y) (.slice none 0 0) 72
  obtain ⟨W0, hW0⟩ : ∃ W0, W0 = (((w.alloc (.cells #[.int .u64 x, .slice none 0 0] 72)).alloc (.cells #[.int .u64 y, .slice none 0 0] 72)).alloc (.cells #[.int .u64 0, .slice none 0 0] 72)) := ⟨_, rfl⟩
  rw [← hW0] at hB
  have HB := Lib.hid hB
  obtain ⟨_, _, c00, c01, c10, c11, _⟩ := hB
  clear hu hv hw1 hx hy
  go_enter Tryz.func180, Tryz.ntmps180
  go_wp2_with fail
  rw [← hW0]
  clear hW0
  refine (HW1.out _ HB.out.below).mono ?_
  rintro e w1 ⟨rfl, rfl⟩
  have B1 := Lib.hid (HB.out.step (alloc_below W0 (.cells #[.int .u64 x, .slice none 0 0] 72)))
  generalize W0.alloc (.cells #[.int .u64 x, .slice none 0 0] 72) = W1 at *
  clear c00 c01 c10 c11
  obtain ⟨_, _, c00, c01, c10, c11, ⟨r0, r1, r2, r3⟩⟩ := B1.out
  go_wp2
  exact bodyPost_ret (v := .agg #[.int .u64 (x - y), .slice none 0 0]) (by simp [results, Tryz.results180, go_sem, r0, r1]) rfl (B1.out.fin (NatV.word (by omega) hd))

set_option maxHeartbeats 1000000 in
theorem difference_rows (p v q u : Value) (x y : Int) (w : World) (hu : NatV w p v x) (hv : NatV w q u y) (hxy : y ≤ x) (hx : 2 < nl x) :
    Calls Tryz.prog 180 #[.agg #[p, v], .agg #[q, u]] w (GivesN (x - y) w) := by
  have hx0 := hu.1
  have hy0 := hv.1
  obtain ⟨m, hm⟩ : ∃ m, m = nl y := ⟨_, rfl⟩
  have hmn : m ≤ nl x := by rw [hm]; exact nl_mono hx0 hxy
  have HY : Hid (y < bp m) := by show _ < _; rw [hm]; exact nl_lt hy0
  have HW := Lib.hid (fun W (hb : Below w.heap.size w W) => isWord_no _ _ x W (hu.below hb) hx)
  have SY := Lib.hid (fun W (hb : Below w.heap.size w W) => spread_any q u y w W hv hb)
  have HX0 := Lib.hid (nl_lt hx0)
  obtain ⟨g, o, n, hn, hn2, hn3, rfl, rfl, hg, hc⟩ := hu.large hx
  obtain ⟨s, b, m0, rfl, rfl, hs, hm0, _, _, _, _⟩ := hv.form
  rw [← hn] at hmn HX0
  have HM := Lib.hid hm
  have HC := Lib.hid hc
  have hB := Box2.new w (.int .u64 0) (.slice (some ⟨g, o, none⟩) n n) (.int .u64 s) (.slice b m0 m0) 72
  obtain ⟨W0, hW0⟩ : ∃ W0, W0 = (((w.alloc (.cells #[.int .u64 0, .slice (some ⟨g, o, none⟩) n n] 72)).alloc (.cells #[.int .u64 s, .slice b m0 m0] 72)).alloc (.cells #[.int .u64 0, .slice none 0 0] 72)) := ⟨_, rfl⟩
  rw [← hW0] at hB
  have HB := Lib.hid hB
  obtain ⟨_, _, c00, c01, c10, c11, _⟩ := hB
  clear hu hv hx hs hm0 hn hm hc
  go_enter Tryz.func180, Tryz.ntmps180
  go_wp2_with fail
  rw [← hW0]
  clear hW0
  refine (HW.out _ HB.out.below).mono ?_
  rintro e w1 ⟨rfl, rfl⟩
  have B1 := Lib.hid (HB.out.step (alloc_below W0 (.cells #[.int .u64 0, .slice (some ⟨g, o, none⟩) n n] 72)))
  generalize W0.alloc (.cells #[.int .u64 0, .slice (some ⟨g, o, none⟩) n n] 72) = W1 at *
  clear c00 c01 c10 c11 HB
  obtain ⟨_, _, c00, c01, c10, c11, _⟩ := B1.out
  go_wp2_with fail
  refine (clone_some g o n n x W1 (by omega) (by have := B1.out.sz; omega) (fun j hj => (below_at B1.out.below _ hg).trans (HC.out j hj))).mono ?_
  rintro e w2 ⟨v2, rfl, hown, hb2⟩
  obtain ⟨g2, cap, rfl, hcap, hF⟩ := fresh_own hown hb2 (by omega)
  have HF := Lib.hid hF
  have B2 := Lib.hid (B1.out.step hb2)
  clear hown hb2 hF c00 c01 c10 c11
  obtain ⟨_, _, c00, c01, c10, c11, _⟩ := B2.out
  go_wp2_with fail
  refine (SY.out _ B2.out.below).mono ?_
  rintro e w3 ⟨a3, rfl, hr3, hb3⟩
  rw [← HM.out] at hr3 ⊢
  have R3 := Lib.hid hr3
  have HF3 : Hid (Fresh W1 w3 g2 n x) := ⟨HF.out.below.trans (hb3.mono HF.out.below.size), HF.out.ge, Nat.lt_of_lt_of_le HF.out.lt hb3.size, fun j hj => (below_at hb3 _ HF.out.lt).trans (HF.out.cells j hj), fun j hj => (below_atF hb3 _ HF.out.lt).trans (HF.out.free j hj)⟩
  have HLT := Lib.hid HF.out.lt
  clear hr3 hb3 c00 c01 c10 c11 HF B2
  have hge := HF3.out.ge
  have hw1 := B1.out.sz
  have hlt : g2 < w2.heap.size := HLT.out
  go_wp2_with fail
  refine (takeFrom_any g2 0 n cap a3 m m x y 1 w3 (by omega) (by omega) hx0 HX0.out hy0 HY.out (by omega) (by omega) HF3.out.cells HF3.out.free (R3.out.x (by omega) (by omega))).mono ?_
  rintro e w4 ⟨rfl, hC⟩
  have HF4 := Lib.hid (HF3.out.wrote hC)
  have B4 := Lib.hid (B1.out.step HF4.out.below)
  clear hC
  go_wp2_with fail
  refine (trim_any _ n cap (x - 1 * y) w4 (by omega) (by have := HX0.out; omega) (by omega) (by omega) HF4.out.row).mono ?_
  rintro e w9 ⟨p9, v9, rfl, hv9, hb9⟩
  have FI := Lib.hid (B4.out.step hb9)
  rw [Int.one_mul] at hv9
  have HV9 := Lib.hid hv9
  obtain ⟨t9, a9, n9, rfl, rfl, ht9, hn9, _, _, _, _⟩ := hv9.form
  have HT9 := Lib.hid ht9
  have HN9 := Lib.hid hn9
  clear hv9 hb9 ht9 hn9
  obtain ⟨_, _, _, _, _, _, ⟨r0, r1, r2, r3⟩⟩ := FI.out
  go_wp2
  exact bodyPost_ret (v := .agg #[.int .u64 t9, .slice a9 n9 n9]) (by simp [results, Tryz.results180, go_sem, r0, r1]) rfl (FI.out.fin HV9.out)
theorem difference_any (p v q u : Value) (x y : Int) (w : World) (hu : NatV w p v x) (hv : NatV w q u y) (hxy : y ≤ x) :
    Calls Tryz.prog 180 #[.agg #[p, v], .agg #[q, u]] w (GivesN (x - y) w) := by
  rcases Nat.lt_or_ge 2 (nl x) with h | h
  · exact difference_rows p v q u x y w hu hv hxy h
  · exact difference_words p v q u x y w hu hv hxy h
end Go.Proofs.YtkhebidmfjbhaaaGreatDoor
namespace Go.Proofs.YtkhebidmfjbhaaaGreatDoor
open Go.RowKit

/-- -1, 0 or 1. -/
def cmp3 (x y : Int) : Int := if x < y then -1 else if y < x then 1 else 0
theorem cmp3_lt {x y : Int} (h : x < y) : cmp3 x y = -1 := by unfold cmp3; rw [if_pos h]
theorem cmp3_gt {x y : Int} (h : y < x) : cmp3 x y = 1 := by unfold cmp3; rw [if_neg (by omega), if_pos h]
theorem cmp3_eq (x : Int) : cmp3 x x = 0 := by unfold cmp3; rw [if_neg (by omega), if_neg (by omega)]

theorem cmpI_any (x y : Int) (w : World) : Calls Tryz.prog 167 #[.int .i64 x, .int .i64 y] w fun e w' => e = .returned (.int .i64 (cmp3 x y)) ∧ w = w' := by
  rcases Int.lt_trichotomy x y with h | h | h
  · rw [cmp3_lt h]
    go_enter Tryz.func167, Tryz.ntmps167
    go_wp2
    go_ret
    exact ⟨rfl, rfl⟩
  · subst h
    rw [cmp3_eq]
    go_enter Tryz.func167, Tryz.ntmps167
    go_wp2
    go_ret
    exact ⟨rfl, rfl⟩
  · rw [cmp3_gt h]
    go_enter Tryz.func167, Tryz.ntmps167
    go_wp2
    go_ret
    exact ⟨rfl, rfl⟩
theorem cmpU_any (x y : Int) (w : World) : Calls Tryz.prog 206 #[.int .u64 x, .int .u64 y] w fun e w' => e = .returned (.int .i64 (cmp3 x y)) ∧ w' = w := by
  rcases Int.lt_trichotomy x y with h | h | h
  · rw [cmp3_lt h]
    go_enter Tryz.func206, Tryz.ntmps206
    go_wp2
    go_ret
    exact ⟨rfl, rfl⟩
  · subst h
    rw [cmp3_eq]
    go_enter Tryz.func206, Tryz.ntmps206
    go_wp2
    go_ret
    exact ⟨rfl, rfl⟩
  · rw [cmp3_gt h]
    go_enter Tryz.func206, Tryz.ntmps206
    go_wp2
    go_ret
    exact ⟨rfl, rfl⟩

theorem cmpU_lt {x y : Int} (h : x < y) (w : World) : Calls Tryz.prog 206 #[.int .u64 x, .int .u64 y] w fun e w' => e = .returned (.int .i64 (-1)) ∧ w' = w := by have := cmpU_any x y w; rwa [cmp3_lt h] at this
theorem cmpU_gt {x y : Int} (h : y < x) (w : World) : Calls Tryz.prog 206 #[.int .u64 x, .int .u64 y] w fun e w' => e = .returned (.int .i64 1) ∧ w' = w := by have := cmpU_any x y w; rwa [cmp3_gt h] at this
theorem cmpU_eq (x : Int) (w : World) : Calls Tryz.prog 206 #[.int .u64 x, .int .u64 x] w fun e w' => e = .returned (.int .i64 0) ∧ w' = w := by have := cmpU_any x x w; rwa [cmp3_eq] at this
/-- The higher limbs decide. -/
theorem cmp_div {x y : Int} (k : Nat) (h : x / bp (k + 1) = y / bp (k + 1)) (hl : lz x k < lz y k) : x < y := by
  have h1 := div_split x k
  have h2 := div_split y k
  rcases Int.lt_or_le x y with h3 | h3
  · exact h3
  · have := Int.ediv_le_ediv (bp_pos k) h3
    omega

theorem below_drewN {B : Nat} {w w' : World} (h : Below B w w') (d : Nat) : Below B w (w'.drewN d) := ⟨h.os, h.tape, h.output, h.size, h.block⟩
def GivesI (t : Int) (w : World) (e : Ending) (w' : World) : Prop := e = .returned (.int .i64 t) ∧ Below w.heap.size w w'


/-- The boxes of two natural numbers, from the end of w on. -/
structure Box1 (w W : World) (p v q u : Value) : Prop where
  below : Below w.heap.size w W
  p0 : W.cell? ⟨w.heap.size, 0, none⟩ = some p
  p1 : W.cell? ⟨w.heap.size, 1, none⟩ = some v
  q0 : W.cell? ⟨w.heap.size + 1, 0, none⟩ = some q
  q1 : W.cell? ⟨w.heap.size + 1, 1, none⟩ = some u
theorem Box1.new (w : World) (p v q u : Value) (T T' : TypeId) : Box1 w ((w.alloc (.cells #[p, v] T)).alloc (.cells #[q, u] T')) p v q u where
  below := ((Below.refl _ _).alloc (Nat.le_refl _) _).alloc (by simp) _
  p0 := by rw [World.cell?_alloc_past _ _ _ (by simp), World.cell?_alloc_new]; rfl
  p1 := by rw [World.cell?_alloc_past _ _ _ (by simp), World.cell?_alloc_new]; rfl
  q0 := by rw [World.cell?_alloc_at _ _ _ _ (by simp)]; rfl
  q1 := by rw [World.cell?_alloc_at _ _ _ _ (by simp)]; rfl
theorem Box1.drewN {w W : World} {p v q u : Value} (h : Box1 w W p v q u) (d : Nat) : Box1 w (W.drewN d) p v q u :=
  ⟨below_drewN h.below d, h.p0, h.p1, h.q0, h.q1⟩

theorem nl_cmp {x y : Int} (hx : 0 ≤ x) (h : nl x < nl y) : x < y := by
  rcases Int.lt_or_le x y with h3 | h3
  · exact h3
  · have := nl_mono hx h3; omega
theorem ml_cmp {x y : Int} (hx : 0 ≤ x) (h : ml x < ml y) : x < y := by
  apply nl_cmp hx
  unfold ml at h
  split at h <;> split at h <;> omega
theorem compare_long (p v q u : Value) (x y : Int) (w : World) (hu : NatV w p v x) (hv : NatV w q u y) (hne : ml x ≠ ml y) :
    Calls Tryz.prog 177 #[.agg #[p, v], .agg #[q, u]] w (GivesI (cmp3 x y) w) := by
  have hc : cmp3 (ml x) (ml y) = cmp3 x y ∧ (cmp3 (ml x) (ml y) != 0) = true := by
    rcases Nat.lt_or_ge (ml x) (ml y) with h | h
    · have := ml_cmp hu.1 h
      rw [cmp3_lt this, cmp3_lt (by omega)]; exact ⟨rfl, rfl⟩
    · have := ml_cmp hv.1 (show ml y < ml x by omega)
      rw [cmp3_gt this, cmp3_gt (by omega)]; exact ⟨rfl, rfl⟩
  obtain ⟨hc1, hc2⟩ := hc
  obtain ⟨t, a, n, rfl, rfl, ht, hn, _, _, _, _⟩ := hu.form
  obtain ⟨s, b, m, rfl, rfl, hs, hm, _, _, _, _⟩ := hv.form
  rw [← hn, ← hm] at hc1 hc2
  have HC := Lib.hid hc1
  clear hn hm ht hs hu hv hne hc1
  go_enter Tryz.func177, Tryz.ntmps177
  go_wp2_with fail
  refine (cmpI_any _ _ _).mono ?_
  rintro e w' ⟨rfl, rfl⟩
  go_wp2
  go_ret
  exact ⟨ret_int HC.out, ((Below.refl _ _).alloc (Nat.le_refl _) _).alloc (by simp) _⟩

set_option maxHeartbeats 1000000 in
theorem compare_same (p v q u : Value) (x y : Int) (w : World) (hu : NatV w p v x) (hv : NatV w q u y) (he : ml x = ml y) :
    Calls Tryz.prog 177 #[.agg #[p, v], .agg #[q, u]] w (GivesI (cmp3 x y) w) := by
  have hx0 := hu.1
  have hy0 := hv.1
  have hst : 0 < ml x → x / bp (ml x) = y / bp (ml x) := fun h => by
    have e1 : ml x = nl x := by rcases Nat.lt_or_ge 2 (nl x) with h2 | h2; exact ml_long h2; rw [ml_word h2] at h; omega
    have e2 : ml y = nl y := by rcases Nat.lt_or_ge 2 (nl y) with h2 | h2; exact ml_long h2; rw [he, ml_word h2] at h; omega
    rw [div_zero hx0 (by rw [e1]; exact nl_lt hx0), div_zero hy0 (by rw [he, e2]; exact nl_lt hy0)]
  have hend : (0 < ml x → x = y) → cmp3 (wd x) (wd y) = cmp3 x y := fun h => by
    rcases Nat.eq_zero_or_pos (ml x) with h0 | h0
    · rw [wd_word ((ml_zero_iff x).1 h0), wd_word ((ml_zero_iff y).1 (by omega))]
    · rw [h h0, cmp3_eq, cmp3_eq]
  obtain ⟨t, a, n, rfl, rfl, ht, hn, hn1, _, _, hrx⟩ := hu.form
  obtain ⟨s, b, m, rfl, rfl, hs, hm, hm1, _, _, hry⟩ := hv.form
  obtain rfl : n = m := by omega
  rw [← hn] at hst hend
  rw [← ht, ← hs] at hend
  have HST := Lib.hid hst
  have HEND := Lib.hid hend
  have HRX := Lib.hid hrx
  have HRY := Lib.hid hry
  have hc0 : (cmp3 (n : Int) (n : Int) != 0) = false := by rw [cmp3_eq]; rfl
  have hnew : Box1 w ((w.alloc (.cells #[.int .u64 t, .slice a n n] 72)).alloc (.cells #[.int .u64 s, .slice b n n] 72)) (.int .u64 t) (.slice a n n) (.int .u64 s) (.slice b n n) := Box1.new _ _ _ _ _ _ _
  obtain ⟨W0, hW0⟩ : ∃ W0, W0 = (w.alloc (.cells #[.int .u64 t, .slice a n n] 72)).alloc (.cells #[.int .u64 s, .slice b n n] 72) := ⟨_, rfl⟩
  rw [← hW0] at hnew
  have BX := Lib.hid hnew
  obtain ⟨b0, c00, c01, c10, c11⟩ := hnew
  clear hn hm ht hs hrx hry hu hv he hst hend b0
  go_enter Tryz.func177, Tryz.ntmps177
  go_wp2_with fail
  rw [← hW0]
  refine (cmpI_any _ _ _).mono ?_
  rintro e w' ⟨rfl, rfl⟩
  have HW0 := Lib.hid hW0
  clear hW0
  go_wp2
  clear c00 c01 c10 c11
  go_loopw [6, 7] (fun i _ wr => ∃ k d : Nat, k ≤ n ∧ i = .int .i64 ((k : Int) - 1) ∧ Hid (0 < n → x / bp k = y / bp k) ∧ wr = W0.drewN d) (fun i _ _ => (intOf i + 1).toNat)
  case atStart => exact ⟨n, 0, by omega, rfl, HST.out, rfl⟩
  case round =>
    obtain ⟨k, d, hk, rfl, HK, rfl⟩ := hrel
    have BD := Lib.hid (BX.out.drewN d)
    generalize hW : W0.drewN d = W at *
    have HW := Lib.hid hW
    clear hW
    obtain ⟨b1, c00, c01, c10, c11⟩ := BD.out
    have B1 := Lib.hid b1
    clear b1
    rcases Nat.eq_zero_or_pos k with hk0 | hk0
    · subst hk0
      have he := HEND.out (fun h => by have := HK.out h; rwa [div_bp_zero, div_bp_zero] at this)
      have HE := Lib.hid he
      clear he
      go_wp2_with fail
      refine (cmpU_any _ _ _).mono ?_
      rintro e w' ⟨rfl, rfl⟩
      go_wp2
      go_ret
      exact ⟨ret_int HE.out, B1.out⟩
    · obtain ⟨g, o, rfl, hg, hcx⟩ := HRX.out (by omega)
      obtain ⟨g', o', rfl, hg', hcy⟩ := HRY.out (by omega)
      have h1 := (below_at B1.out (o + (k - 1)) hg).trans (hcx (k - 1) (by omega))
      have h2 := (below_at B1.out (o' + (k - 1)) hg').trans (hcy (k - 1) (by omega))
      have HK' := HK.out (by omega)
      clear hcx hcy HRX HRY
      have i1 : (0 : Int) ≤ (k : Int) - 1 := by omega
      have i2 : (k : Int) - 1 < (n : Int) := by omega
      have hb1 := lz_bd x (k - 1)
      have hb2 := lz_bd y (k - 1)
      have hk1 := Lib.hid (show k - 1 + 1 = k by omega)
      have hd1 := cmp_div (x := x) (y := y) (k - 1) (by rw [hk1.out]; exact HK')
      have hd2 := cmp_div (x := y) (y := x) (k - 1) (by rw [hk1.out]; exact HK'.symm)
      have hd3 : lz x (k - 1) = lz y (k - 1) → x / bp (k - 1) = y / bp (k - 1) := fun e => by
        rw [div_split x, div_split y, hk1.out, HK', e]
      have D1 := Lib.hid hd1
      have D2 := Lib.hid hd2
      have D3 := Lib.hid hd3
      clear hd1 hd2 hd3 HK'
      generalize lz x (k - 1) = lx at *
      generalize lz y (k - 1) = ly at *
      rcases Int.lt_trichotomy lx ly with h | h | h
      · have hcc : ((-1 : Int) != 0) = true := rfl
        go_wp2_with fail
        go_quiet ((go_at_call 206; exact Calls.quiet_of_same (cmpU_lt h _)))
        go_wp2
        go_ret
        exact ⟨ret_int (cmp3_lt (D1.out h)).symm, below_drewN B1.out _⟩
      · subst h
        go_wp2_with fail
        go_quiet ((go_at_call 206; exact Calls.quiet_of_same (cmpU_eq lx _)))
        go_wp2
        go_roundw
        case rel => exact ⟨k - 1, _, by omega, by go_num, (fun _ => D3.out (by first | rfl | trivial)), by rw [← HW.out, World.drewN_drewN]⟩
        case measure => simp [intOf]; omega
      · have hcc : ((1 : Int) != 0) = true := rfl
        go_wp2_with fail
        go_quiet ((go_at_call 206; exact Calls.quiet_of_same (cmpU_gt h _)))
        go_wp2
        go_ret
        exact ⟨ret_int (cmp3_gt (D2.out h)).symm, below_drewN B1.out _⟩
theorem compare_any (p v q u : Value) (x y : Int) (w : World) (hu : NatV w p v x) (hv : NatV w q u y) :
    Calls Tryz.prog 177 #[.agg #[p, v], .agg #[q, u]] w (GivesI (cmp3 x y) w) := by
  by_cases h : ml x = ml y
  · exact compare_same p v q u x y w hu hv h
  · exact compare_long p v q u x y w hu hv h
end Go.Proofs.YtkhebidmfjbhaaaGreatDoor
namespace Go.Proofs.YtkhebidmfjbhaaaGreatDoor
open Go.RowKit

theorem length_any (t : Int) (w : World) (h0 : 0 ≤ t) (h1 : t ≤ 18446744073709551615) :
    Calls Tryz.prog 181 #[.int .u64 t] w fun e w' => e = .returned (.int .i64 (Ten.nl t)) ∧ w = w' := by
  have hb : Ten.nl t ≤ 20 := Ten.nl_le (by unfold Ten.bp; omega)
  have HB := Lib.hid hb
  clear hb
  go_enter Tryz.func181, Tryz.ntmps181
  go_wp2
  go_loop [0, 3] (fun s d => ∃ (r : Int) (m : Nat), 0 ≤ r ∧ r ≤ 18446744073709551615 ∧ Hid (m + Ten.nl r = Ten.nl t) ∧ s = .int .u64 r ∧ d = .int .i64 m) (fun s _ => (intOf s).toNat)
  case atStart => exact ⟨t, 0, h0, h1, by show _ = _; omega, rfl, rfl⟩
  case round =>
    obtain ⟨r, m, hr0, hr1, HM, rfl, rfl⟩ := hrel
    rcases Int.lt_or_le 0 r with h | h
    · have hs := ten_nl_step h
      have hm9 : m < 20 := by have := HM.out; have := HB.out; omega
      have HS := Lib.hid hs
      clear hs
      go_wp2
      go_round
      case rel => exact ⟨r / 10, m + 1, by omega, by omega, by show _ = _; have := HM.out; have := HS.out; omega, rfl, by go_num⟩
      case measure => simp [intOf]; omega
    · obtain rfl : r = 0 := by omega
      have hm0 := HM.out
      have e0 : Ten.nl 0 = 0 := Ten.nl_zero
      go_wp2
      go_ret
      exact ⟨ret_int (by omega), rfl⟩

theorem dn_max1 {x : Int} (h0 : 0 ≤ x) : (dn x : Int) = max 1 (Ten.nl x : Int) := by
  by_cases h : x = 0
  · subst h; rw [dn_zero, Ten.nl_zero]; rfl
  · rw [dn_ten (by omega)]
    have := Ten.nl_pos (show 0 < x by omega)
    omega
theorem digits_any (p v : Value) (x : Int) (w : World) (hu : NatV w p v x) :
    Calls Tryz.prog 151 #[.agg #[p, v]] w (GivesI (dn x) w) := by
  have hx0 := hu.1
  rcases Nat.lt_or_ge 2 (nl x) with h | h
  · have hw := fun W (hb : Below w.heap.size w W) => isWord_no _ _ x W (hu.below hb) h
    have HW := Lib.hid hw
    obtain ⟨g, o, n, hn, hn2, hn3, rfl, rfl, hg, hc⟩ := hu.large h
    obtain ⟨k, rfl⟩ : ∃ k, n = k + 1 := ⟨n - 1, by omega⟩
    have hd := dn_split hx0 hn.symm
    have HD := Lib.hid hd
    have hb := lz_bd x k
    have hc1 := hc k (by omega)
    have hl := length_any (lz x k)
    have hl9 := ten_nl_limb x k
    generalize lz x k = t at *
    have HL := Lib.hid hl
    generalize Ten.nl t = T at *
    clear hu hn hc hw hd hl
    go_enter Tryz.func151, Tryz.ntmps151
    go_wp2_with fail
    refine (HW.out _ ((Below.refl _ _).alloc (Nat.le_refl _) _)).mono ?_
    rintro e w' ⟨rfl, rfl⟩
    go_wp2_with fail
    refine (HL.out _ (by omega) (by omega)).mono ?_
    rintro e w' ⟨rfl, rfl⟩
    go_wp2
    go_ret
    exact ⟨ret_int (by rw [HD.out]; omega), ((Below.refl _ _).alloc (Nat.le_refl _) _).alloc (by simp) _⟩
  · have hw := fun W (hb : Below w.heap.size w W) => isWord_yes _ _ x W (hu.below hb) h
    have HW := Lib.hid hw
    obtain ⟨rfl, rfl⟩ := hu.small h
    have hd := dn_max1 hx0
    have hx1 := (nl_word hx0).1 h
    have hl := length_any x
    have HL := Lib.hid hl
    have hT : Ten.nl x ≤ 20 := Ten.nl_le (by unfold Ten.bp; omega)
    generalize Ten.nl x = T at *
    have HD := Lib.hid hd
    clear hu h hw hd hl
    go_enter Tryz.func151, Tryz.ntmps151
    go_wp2_with fail
    refine (HW.out _ ((Below.refl _ _).alloc (Nat.le_refl _) _)).mono ?_
    rintro e w' ⟨rfl, rfl⟩
    go_wp2_with fail
    refine (HL.out _ (by omega) (by omega)).mono ?_
    rintro e w' ⟨rfl, rfl⟩
    go_wp2
    go_ret
    exact ⟨ret_int HD.out.symm, ((Below.refl _ _).alloc (Nat.le_refl _) _).alloc (by simp) _⟩
end Go.Proofs.YtkhebidmfjbhaaaGreatDoor
namespace Go.Proofs.YtkhebidmfjbhaaaGreatDoor
open Go.RowKit

/-- The highest s digits (of len) of u that stand before place e. -/
def grp (u : Int) (len s e : Nat) : Int := u / Ten.bp (len - e) % Ten.bp (e - s)
theorem grp_zero (u : Int) (len s : Nat) : grp u len s s = 0 := by unfold grp; rw [Nat.sub_self, Ten.bp_zero]; omega
theorem grp_step {u : Int} {len s e : Nat} (hs : s ≤ e) (he : e < len) : grp u len s (e + 1) = grp u len s e * 10 + Ten.lz u (len - 1 - e) := by
  unfold grp
  rw [show len - (e + 1) = len - 1 - e by omega, show e + 1 - s = (e - s) + 1 by omega, show len - e = (len - 1 - e) + 1 by omega, Ten.bp_succ, Ten.div_succ]
  unfold Ten.lz
  generalize u / Ten.bp (len - 1 - e) = y
  have hp := Ten.bp_pos (e - s)
  have h1 := Int.emod_add_mul_ediv y 10
  have h2 := Int.emod_add_mul_ediv (y / 10) (Ten.bp (e - s))
  have h3 := Int.emod_nonneg (y / 10) (show Ten.bp (e - s) ≠ 0 by omega)
  have h4 := Int.emod_lt_of_pos (y / 10) hp
  generalize y / 10 / Ten.bp (e - s) = q at *
  generalize y / 10 % Ten.bp (e - s) = r at *
  have e1 : y = (r * 10 + y % 10) + (10 * Ten.bp (e - s)) * q := by rw [Int.mul_assoc]; omega
  rw [e1, Int.add_mul_emod_self_left, Int.emod_eq_of_lt (by omega) (by omega)]
  omega
/-- A group of nine digits, or of what is left, is a limb. -/
theorem grp_limb {u : Int} {len k : Nat} (h0 : 0 ≤ u) (h : u < Ten.bp len) (hk : 9 * k < len) : grp u len (len - 9 * k - 9) (len - 9 * k) = lz u k := by
  unfold grp lz
  rw [show len - (len - 9 * k) = 9 * k by omega, ← bp_ten]
  by_cases h9 : 9 * k + 9 ≤ len
  · rw [show len - 9 * k - (len - 9 * k - 9) = 9 by omega, ten_nine]
  · have e1 : 0 ≤ u / bp k := Int.ediv_nonneg h0 (Int.le_of_lt (bp_pos k))
    have e2 : u / bp k < Ten.bp (len - 9 * k) := by
      apply Int.ediv_lt_of_lt_mul (bp_pos k)
      rw [bp_ten, Int.mul_comm, ← Ten.bp_add, show 9 * k + (len - 9 * k) = len by omega]; exact h
    have e3 := Ten.bp_mono (show len - 9 * k ≤ 9 by omega)
    rw [ten_nine] at e3
    rw [show len - 9 * k - (len - 9 * k - 9) = len - 9 * k by omega, Int.emod_eq_of_lt e1 e2, Int.emod_eq_of_lt e1 (by omega)]
/-- A digit of a text. -/
theorem td_lz (n t : Nat) (h : t < (td n).size) : (((td n)[t]'h).toNat : Int) = 48 + Ten.lz n ((td n).size - 1 - t) := by
  rw [td_get, td_size]
  unfold Ten.lz Ten.bp
  simp
/-- D consists of decimal digits, those of n, maybe behind zeros. -/
structure Digs (D : ByteArray) (n : Nat) : Prop where
  lt : (n : Int) < Ten.bp D.size
  dig : ∀ k (hk : k < D.size), 48 ≤ ((D[k]'hk).toNat : Int) ∧ ((D[k]'hk).toNat : Int) ≤ 57
  lz : ∀ k (hk : k < D.size), ((D[k]'hk).toNat : Int) = 48 + Ten.lz n (D.size - 1 - k)
theorem Digs.td (n : Nat) : Digs (td n) n where
  lt := by
    have h := dn_lt (x := (n : Int)) (by omega)
    have e : (Go.Proofs.YtkhebidmfjbhaaaGreatDoor.td n).size = dn n := by rw [td_size]; rfl
    rwa [e]
  dig := fun k hk => td_dig n k hk
  lz := fun k hk => td_lz n k hk

set_option maxHeartbeats 800000 in
/-- A part of such a text as a word. -/
theorem word_part (S E : Nat) (D P : ByteArray) (n : Nat) (w : World) (hD : Digs D n) (hSE : S ≤ E) (hE : E ≤ D.size) (hP : P.size = E - S) (hPk : ∀ k (hk : k < P.size) (hk2 : S + k < D.size), P[k]'hk = D[S + k]'hk2) (h18 : E ≤ S + 18) :
    Calls Tryz.prog 184 #[.string P] w fun e w' => e = .returned (.int .u64 (grp n D.size S E)) ∧ w = w' := by
  have g0 := grp_zero n D.size S
  have HD := Lib.hid hD
  have HPK := Lib.hid hPk
  have HP := Lib.hid hP
  have hPn : P.size ≤ 18 := by omega
  have G0 := Lib.hid g0
  clear hD hPk hP g0
  go_enter Tryz.func184, Tryz.ntmps184
  go_wp2
  go_loop [3, 7] (fun l i => ∃ j : Nat, j ≤ P.size ∧ i = .int .i64 j ∧ l = .int .u64 (grp n D.size S (S + j))) (fun _ i => P.size - (intOf i).toNat)
  case atStart => exact ⟨0, by omega, rfl, by rw [Nat.add_zero, G0.out]⟩
  case round =>
    obtain ⟨j, hj, rfl, rfl⟩ := hrel
    have hPs := HP.out
    by_cases hlt : j < P.size
    · have hjd : S + j < D.size := by omega
      have hPj := HPK.out j hlt hjd
      obtain ⟨b1, b2⟩ := HD.out.dig (S + j) hjd
      have hl := HD.out.lz (S + j) hjd
      rw [← hPj] at b1 b2 hl
      have hst := grp_step (u := (n : Int)) (len := D.size) (s := S) (e := S + j) (by omega) hjd
      have g1 : 0 ≤ grp (n : Int) D.size S (S + j) ∧ grp (n : Int) D.size S (S + j) < 1000000000000000000 := by
        unfold grp
        have hp := Ten.bp_pos (S + j - S)
        have h1 := Ten.bp_mono (show S + j - S ≤ 18 by omega)
        rw [show Ten.bp 18 = 1000000000000000000 from by unfold Ten.bp; decide] at h1
        exact ⟨Int.emod_nonneg _ (by omega), by have := Int.emod_lt_of_pos ((n : Int) / Ten.bp (D.size - (S + j))) hp; omega⟩
      have hl10 := Ten.lz_bd (n : Int) (D.size - 1 - (S + j))
      obtain ⟨g2, g3⟩ := g1
      have HL := Lib.hid hl
      have HST := Lib.hid hst
      clear hl hst hPj hPs hjd hl10
      generalize grp (n : Int) D.size S (S + j) = gv at *
      go_wp2
      go_round
      case rel => exact ⟨j + 1, by omega, by go_num, by rw [← Nat.add_assoc, HST.out]; have := HL.out; congr 1; omega⟩
      case measure => simp [intOf]; omega
    · obtain rfl : j = P.size := by omega
      have hfin : S + P.size = E := by omega
      have HF := Lib.hid hfin
      clear hfin hPs
      go_wp2
      go_ret
      exact ⟨ret_int (by rw [HF.out]), rfl⟩
theorem grp_all {n : Nat} {len : Nat} (h : (n : Int) < Ten.bp len) : grp n len 0 len = n := by
  unfold grp
  rw [Nat.sub_self, Ten.bp_zero, Nat.sub_zero, Int.ediv_one, Int.emod_eq_of_lt (by omega) h]
theorem word_any (D : ByteArray) (n : Nat) (w : World) (hD : Digs D n) (h18 : D.size ≤ 18) :
    Calls Tryz.prog 184 #[.string D] w fun e w' => e = .returned (.int .u64 n) ∧ w = w' := by
  have := word_part 0 D.size D D n w hD (by omega) (Nat.le_refl _) (by omega) (fun k hk hk2 => by congr 1; omega) (by omega)
  rwa [grp_all hD.lt] at this

theorem mk_cap (c : Nat) (hn : c ≤ 1000000) (w : World) : (Instr.makeSlice 70 (.int .i64 0) (.int .i64 (c : Int))).run Tryz.prog w = .ok (.slice (some ⟨w.heap.size, 0, none⟩) 0 c) (w.alloc (.cells (madeCells #[.int .u64 0] c) 69)) := by
  obtain ⟨i0, hi, hz0, hz1, hz2⟩ := info_parts infoU64
  have := run_makeSlice (P := Tryz.prog) (w := w) 70 69 i0 (.int .u64 0) undU64s hi hz0 .i64 .i64 0 c (by omega) (by omega) (by rw [hz1]; omega) (by rw [hz2]; omega) (by omega)
  have e : (Value.int .u64 0).cells = #[.int .u64 0] := rfl
  rw [hz1, e] at this
  simpa using this
theorem ul_succ (x : Int) (n : Nat) : ul x n ++ [.int .u64 (lz x n)] = ul x (n + 1) := by
  unfold ul; rw [List.range_succ, List.map_append, List.map_singleton]
theorem ba_part (D : ByteArray) (S E : Nat) (hSE : S ≤ E) (hE : E ≤ D.size) : (D.extract S E).size = E - S ∧ ∀ k (hk : k < (D.extract S E).size) (hk2 : S + k < D.size), (D.extract S E)[k]'hk = D[S + k]'hk2 := by
  refine ⟨by rw [ByteArray.size_extract]; omega, fun k hk hk2 => ?_⟩
  rw [ByteArray.getElem_extract]
set_option maxHeartbeats 800000 in
set_option maxRecDepth 100000 in
theorem collect_any (D : ByteArray) (n : Nat) (w : World) (hDig : Digs D n) (hd : D.size ≤ 5000) (hpos : 0 < D.size) :
    Calls Tryz.prog 185 #[.string D] w (GivesN n w) := by
  obtain ⟨i0, hi, hz0, hz1, hz2⟩ := info_parts infoU64
  have HD := Lib.hid hDig
  have hmk := mk_cap (D.size / 9 + 1) (by omega)
  rw [show ((D.size / 9 + 1 : Nat) : Int) = (D.size : Int) / 9 + 1 by omega] at hmk
  have S0 := Lib.hid (ResN.new w 72 w.heap.size rfl)
  clear hDig
  go_enter Tryz.func185, Tryz.ntmps185
  go_wp2
  go_loopw [3, 4] (fun v e wr => ∃ k : Nat, 9 * k < D.size + 9 ∧ e = .int .i64 ((D.size : Int) - 9 * (k : Int)) ∧ wr.ownsRow (w.heap.size + 1) 69 1 v k (ul n k) ∧ Below (w.heap.size + 1) (w.alloc (.cells #[.int .u64 0, .slice none 0 0] 72)) wr) (fun _ e _ => (intOf e).toNat)
  case atStart =>
    refine ⟨0, by omega, by simp, ⟨rfl, .inr ⟨w.heap.size + 1, D.size / 9 + 1, madeCells #[.int .u64 0] (D.size / 9 + 1), rfl, Nat.le_refl _, ?_, Nat.zero_le _, by unfold maxLen; omega, by rw [size_madeCells]; omega, rfl⟩⟩, (Below.refl _ _).alloc (by simp) _⟩
    show ((w.heap.push _).push _)[w.heap.size + 1]? = _
    rw [Array.getElem?_push, if_pos (by simp)]
  case round =>
    obtain ⟨k, hk, rfl, hown, hbel⟩ := hrel
    by_cases hc : 9 * k < D.size
    · obtain ⟨E, hE⟩ : ∃ E, E = D.size - 9 * k := ⟨_, rfl⟩
      obtain ⟨S, hS⟩ : ∃ S, S = D.size - 9 * k - 9 := ⟨_, rfl⟩
      rw [show ((D.size : Int) - 9 * (k : Int)) = (E : Int) by omega]
      have hmax : max (0 : Int) ((E : Int) - 9) = (S : Int) := by omega
      have hgl := grp_limb (u := (n : Int)) (len := D.size) (k := k) (by omega) HD.out.lt hc
      rw [← hS, ← hE] at hgl
      have hSE : S ≤ E := by omega
      have hSE9 : E ≤ S + 9 := by omega
      have hED : E ≤ D.size := by omega
      have hEp : 0 < E := by omega
      have hpt := ba_part D S E hSE hED
      have hwd := fun W => word_part S E D (D.extract S E) n W HD.out hSE hED hpt.1 hpt.2 (by omega)
      rw [hgl] at hwd
      have WD := Lib.hid hwd
      have HE := Lib.hid hE
      have OWN := Lib.hid hown
      have BEL := Lib.hid hbel
      have hsw := hbel.size
      simp only [World.size_alloc] at hsw
      clear hgl hE hS hown hbel hmk hwd hpt
      go_wp2_with fail
      refine (WD.out _).mono ?_
      rintro e w' ⟨rfl, rfl⟩
      go_wp2_with (at_builtin; refine wpList_append_own _ rfl _ _ 70 rfl (w.heap.size + 1) 69 i0 (.int .u64 0) 1 8 undU64s hi hz0 hz1 hz2 rfl (by decide) _ _ _ rfl (OWN.out.alloc _) ⟨wr.heap.size, 0, none⟩ 1 1 [.int .u64 (lz n k)] rfl rfl (cell_one_new _ _ _) ?c2 ?c3 ?c4 ?c5 ?_)
      case c2 => first | rfl | (intro u hu; simp at hu; subst hu; rfl)
      case c3 => unfold maxLen; omega
      case c4 => omega
      case c5 => first | omega | (simp; omega)
      · intro v' w1 hown' hgrow _
        rw [ul_succ] at hown'
        have hb1 : Below (w.heap.size + 1) (w.alloc (.cells #[.int .u64 0, .slice none 0 0] 72)) w1 := (BEL.out.alloc (by omega) _).grown hgrow (by simp; omega) (fun t ht => (OWN.out.lt t ht).1)
        have O1 := Lib.hid hown'
        have B1 := Lib.hid hb1
        have hEk := HE.out
        clear hown' hgrow hb1 OWN BEL
        go_wp2
        go_roundw
        case rel => exact ⟨k + 1, by omega, by congr 1; omega, O1.out, B1.out⟩
        case measure => simp [intOf]; omega
    · have hlen : ¬ (0 : Int) < (D.size : Int) - 9 * (k : Int) := by omega
      have hk0 : 0 < k := by omega
      obtain ⟨g, cap, rfl, hcap, hF⟩ := fresh_own (w := w.alloc (.cells #[.int .u64 0, .slice none 0 0] 72)) (x := (n : Int)) (n := k) (by simpa using hown) (by simpa using hbel) hk0
      have hnb : (n : Int) < bp k := by rw [bp_ten]; exact Int.lt_of_lt_of_le HD.out.lt (Ten.bp_mono (by omega))
      have HF := Lib.hid hF
      clear hown hbel hF
      go_wp2_with fail
      refine (trim_any _ k cap n wr (by omega) hnb hcap (by omega) HF.out.row).mono ?_
      rintro e w3 ⟨p3, v3, rfl, hv, hb⟩
      have hs3 := HF.out.below.size
      simp only [World.size_alloc] at hs3
      have S3 := (S0.out.below HF.out.below (by simp)).below hb (by omega)
      have HB3 := Lib.hid (((Below.refl w.heap.size w).alloc (Nat.le_refl _) (.cells #[.int .u64 0, .slice none 0 0] 72)).trans ((HF.out.below.mono (by simp)).trans (hb.mono (by omega))))
      have HV3 := Lib.hid hv
      obtain ⟨t9, a9, n9, rfl, rfl, ht9, hn9, _, _, _, _⟩ := hv.form
      have HT9 := Lib.hid ht9
      have HN9 := Lib.hid hn9
      clear hv hb ht9 hn9
      obtain ⟨r0, r1, r2, r3⟩ := S3
      go_wp2
      exact bodyPost_ret (v := .agg #[.int .u64 t9, .slice a9 n9 n9]) (by simp [results, Tryz.results185, go_sem, r0, r1]) rfl (giveN (HV3.out.put r1 _ _) (below_set (below_set HB3.out 0 (by omega) _) 1 (by omega) _))
end Go.Proofs.YtkhebidmfjbhaaaGreatDoor
