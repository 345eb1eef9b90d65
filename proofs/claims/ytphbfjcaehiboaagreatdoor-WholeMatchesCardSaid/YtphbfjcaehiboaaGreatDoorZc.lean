/-
  What the functions of package whole on natural numbers return: sums, differences, comparisons.
  What more functions of package whole on natural numbers return.
  slices.Clone, the difference and the comparison of natural numbers.
  The comparison of natural numbers, their number of digits, and their products.
  The number of digits and the highest limbs of a natural number, and products.
  What natural.product returns.
-/
import Derived.Test.YtphbfjcaehiboaaGreatDoorZb
import Derived.Deep.OwnRows
import Derived.Laws.CopyOwn
import Derived.Laws.AppendOwnNone
import Derived.Lib.MinMax
import Derived.Deep.RegionWith
import Derived.Deep.RegionHeld
import Derived.Lib.SliceRun
import Derived.Shelf.Small.Wraps
import Derived.Test.YtphbfjcaehiboaaGreatDoorZa
namespace Go.Proofs.YtphbfjcaehiboaaGreatDoor
open Go.RowKit

theorem infoU64 : (Tryz.prog.info? 101).map (fun i => (i.zero, i.size, i.bytes)) = some (some (.int .u64 0), 1, 8) := by kernel_rfl
theorem undU64s : Tryz.prog.underlying 62 = some (.slice 101) := by kernel_rfl
theorem mk_u64 (n : Nat) (hn : n ≤ 1000000) (w : World) : (Instr.makeSlice 62 (.int .i64 (n : Int)) (.int .i64 (n : Int))).run Tryz.prog w = .ok (.slice (some ⟨w.heap.size, 0, none⟩) n n) (w.alloc (.cells (madeCells #[.int .u64 0] n) 101)) :=
  run_make_row' _ _ (.int .u64 0) 8 undU64s infoU64 rfl .i64 .i64 n (by omega) (by omega) w
theorem made_get (n j : Nat) (h : j < n) : (madeCells #[Value.int .u64 0] n)[j]? = some (.int .u64 0) := by
  unfold madeCells
  simp [h, Nat.mod_one]

theorem below_cells {B : Nat} {w w' : World} (hb : Below B w w') : (∀ b o, b < B → w'.cell? ⟨b, o, none⟩ = w.cell? ⟨b, o, none⟩) ∧ (∀ b o, b < B → w'.frozen? ⟨b, o, none⟩ = w.frozen? ⟨b, o, none⟩) :=
  ⟨fun b o h => hb.cell (p := ⟨b, o, none⟩) h, fun b o h => hb.frozen (p := ⟨b, o, none⟩) h⟩


/-- w1 is w and new blocks, one of which, g, is a row of the call's own that holds the lowest n limbs of z. -/
structure Fresh (w w1 : World) (g n : Nat) (z : Int) : Prop where
  below : Below w.heap.size w w1
  ge : w.heap.size ≤ g
  lt : g < w1.heap.size
  cells : ∀ j, j < n → w1.cell? ⟨g, 0 + j, none⟩ = some (.int .u64 (lz z j))
  free : ∀ j, j < n → w1.frozen? ⟨g, 0 + j, none⟩ = false
theorem Fresh.made (w : World) (n : Nat) : Fresh w (w.alloc (.cells (madeCells #[.int .u64 0] n) 101)) w.heap.size n 0 where
  below := (Below.refl _ _).alloc (Nat.le_refl _) _
  ge := Nat.le_refl _
  lt := by simp
  cells := fun j hj => by rw [Nat.zero_add, World.cell?_alloc_new, made_get n j hj, lz_zero]
  free := fun j hj => by rw [World.frozen?_alloc_new]
theorem Fresh.wrote {w w1 w2 : World} {g n : Nat} {z z' : Int} (h : Fresh w w1 g n z) (hc : Cells w1 w2 g 0 n (lz z')) : Fresh w w2 g n z' where
  below := h.below.trans (hc.below h.ge)
  ge := h.ge
  lt := by rw [hc.size]; exact h.lt
  cells := hc.cells
  free := fun j hj => by rw [hc.frozen]; exact h.free j hj
theorem Fresh.cell' {w w1 : World} {g n : Nat} {z : Int} (h : Fresh w w1 g n z) (j : Nat) (hj : j < n) : w1.cell? ⟨g, j, none⟩ = some (.int .u64 (lz z j)) := by have := h.cells j hj; rwa [Nat.zero_add] at this
theorem Fresh.free' {w w1 : World} {g n : Nat} {z : Int} (h : Fresh w w1 g n z) (j : Nat) (hj : j < n) : w1.frozen? ⟨g, j, none⟩ = false := by have := h.free j hj; rwa [Nat.zero_add] at this
theorem Fresh.row {w w1 : World} {g n : Nat} {z : Int} (h : Fresh w w1 g n z) : Row w1 w1.heap.size (some ⟨g, 0, none⟩) n z := fun _ => ⟨g, 0, rfl, h.lt, h.cells⟩
theorem copy_made {B : Nat} (w : World) (g0 : Nat) (hg0 : g0 = w.heap.size) (a : Option Addr) (n k : Nat) (x : Int) (hn : n ≤ k) (h0 : 0 ≤ x) (h1 : x < bp n) (hr : Row w B a n x) (hB : B ≤ w.heap.size) :
    ∃ w1, (Builtin.copy_ #[62, 62] 3 #[.slice (some ⟨g0, 0, none⟩) k k, .slice a n n]).run Tryz.prog (w.alloc (.cells (madeCells #[.int .u64 0] k) 101)) = .ok (.int .i64 (n : Int)) w1 ∧ Fresh w w1 g0 k x := by
  subst hg0
  have hs : (Tryz.prog.info? 101).map (·.size) = some 1 := by kernel_rfl
  rcases Nat.eq_zero_or_pos n with e | e
  · subst e
    refine ⟨_, run_copy_none (P := Tryz.prog) _ _ _ _ 101 _ _ _ _ _ _ undU64s hs (by simp), ?_⟩
    have hx : x = 0 := by rw [bp_zero] at h1; omega
    subst hx
    exact Fresh.made w k
  · obtain ⟨g, o, rfl, hg, hc⟩ := hr e
    let cs : List Value := (List.range n).map fun j => .int .u64 (lz x j)
    have hl : cs.length = n := by simp [cs]
    have hget : ∀ j, j < n → cs[j]? = some (.int .u64 (lz x j)) := fun j hj => by simp [cs, hj]
    have hrun := run_copy_row (P := Tryz.prog) (w.alloc (.cells (madeCells #[.int .u64 0] k) 101)) 62 62 3 101 w.heap.size 0 k k ⟨g, o, none⟩ n n (madeCells #[.int .u64 0] k) 101 cs undU64s hs
      (by show (w.heap.push _)[w.heap.size]? = _; simp) (by rw [hl]; show n = min n k; omega) (fun j v hj => by
        have hjn : j < n := by
          rcases Nat.lt_or_ge j n with h | h
          · exact h
          · rw [List.getElem?_eq_none (by rw [hl]; exact h)] at hj; cases hj
        rw [hget j hjn] at hj
        rw [WideShapes.add_plain, World.cell?_alloc_past _ _ _ (by omega), hc j hjn, hj]) (by rw [size_madeCells, hl]; omega) (by intro v hv; simp only [cs, List.mem_map] at hv; obtain ⟨j, _, rfl⟩ := hv; rfl)
    rw [hl] at hrun
    refine ⟨_, hrun, ?_⟩
    have hg0 : (w.alloc (.cells (madeCells #[.int .u64 0] k) 101)).heap[w.heap.size]? = some (.cells (madeCells #[.int .u64 0] k) 101 (0, 0)) := by show (w.heap.push _)[w.heap.size]? = _; simp
    refine ⟨below_setRow ((Below.refl _ _).alloc (Nat.le_refl _) _) (Nat.le_refl _) _, Nat.le_refl _, by simp [World.setRow], fun j hj => ?_, fun j hj => ?_⟩
    · rw [Nat.zero_add, cell_setRow_same _ _ _ _ _ _ _ hg0]
      simp only [List.take_zero, List.nil_append, List.getElem?_toArray, Nat.zero_add]
      by_cases hjn : j < n
      · rw [List.getElem?_append_left (by rw [hl]; exact hjn), hget j hjn]
      · rw [List.getElem?_append_right (by rw [hl]; omega), hl, List.getElem?_drop, show n + (j - n) = j by omega, Array.getElem?_toList, made_get k j hj, lz_high h0 h1 (by omega)]
    · unfold World.frozen?
      rw [setRow_heap _ _ _ _ _ _ hg0]
      simp

/-- A store over what is no limb leaves the numbers as they are. -/
theorem NatV.store {w : World} {v : Value} {x : Int} (h : NatV w v x) {p : Addr} {u0 : Value} (hq : w.cell? p = some u0) (hn : ∀ t, u0 ≠ .int .u64 t) (u : Value) : NatV (w.setCell p u) v x := by
  obtain ⟨h1, h2, a, h3, h4⟩ := h
  refine ⟨h1, h2, a, h3, fun hn0 => ?_⟩
  obtain ⟨g, o, e, hg, hc⟩ := h4 hn0
  refine ⟨g, o, e, by rw [World.size_setCell]; exact hg, fun j hj => ?_⟩
  rw [World.cell?_setCell_other w _ _ _ (fun e => ?_), hc j hj]
  subst e
  rw [hc j hj] at hq
  exact hn _ (Option.some.inj hq).symm
theorem sum_lt {x y : Int} {n m k : Nat} (hx : x < bp n) (hy : y < bp m) (h1 : n ≤ k) (h2 : m ≤ k) : x + y < bp (k + 1) := by
  have := bp_mono h1; have := bp_mono h2; have := bp_pos k; rw [bp_succ]; omega
set_option maxRecDepth 100000 in
theorem sum_any (u v : Value) (x y : Int) (w : World) (hu : NatV w u x) (hv : NatV w v y) (hx : nl x ≤ 50000) (hy : nl y ≤ 50000) :
    Calls Tryz.prog 82 #[.agg #[u], .agg #[v]] w (GivesN (x + y) w) := by
  have HU := Lib.hid hu
  have HV := Lib.hid hv
  obtain ⟨a, n, rfl, hn, hn1, hx0, hx1, hrx⟩ := hu.form
  obtain ⟨b, m, rfl, hm, hm1, hy0, hy1, hry⟩ := hv.form
  have HN := Lib.hid hn
  have HM := Lib.hid hm
  rw [← hn] at hx
  rw [← hm] at hy
  have HX := Lib.hid hx1
  have HY := Lib.hid hy1
  have HRX := Lib.hid hrx
  have HRY := Lib.hid hry
  obtain ⟨k, hk⟩ : ∃ k, k = max n m := ⟨_, rfl⟩
  have hk1 : n ≤ k := by omega
  have hk2 : m ≤ k := by omega
  have hk3 : k ≤ 50000 := by omega
  have hmk := mk_u64 (k + 1) (by omega)
  rw [show ((k + 1 : Nat) : Int) = max (n : Int) (m : Int) + 1 by omega] at hmk
  clear hk
  obtain ⟨w1, hcp, hF⟩ := copy_made (((w.alloc (.cells #[.slice a n n] 64)).alloc (.cells #[.slice b m m] 64)).alloc (.cells #[.slice none 0 0] 64)) (w.heap.size + 1 + 1 + 1) (by simp) a n (k + 1) x (by omega) hx0 hx1 (hrx.below ((((Below.refl _ _).alloc (Nat.le_refl _) _).alloc (by simp) _).alloc (by simp; omega) _)) (by simp; omega)
  have HF := Lib.hid hF
  have B0 := Lib.hid ((((Below.refl w.heap.size w).alloc (Nat.le_refl _) (.cells #[.slice a n n] 64)).alloc (by simp) (.cells #[.slice b m m] 64)).alloc (by simp; omega) (.cells #[.slice none 0 0] 64))
  have S0 : Hid (Slot (((w.alloc (.cells #[.slice a n n] 64)).alloc (.cells #[.slice b m m] 64)).alloc (.cells #[.slice none 0 0] 64)) (w.heap.size + 1 + 1) 0 (.slice none 0 0)) := slot_new _ _ _ _ (by simp)
  obtain ⟨hc1, _⟩ := below_cells hF.below
  simp only [World.size_alloc] at hc1
  clear hn hm hrx hry hu hv hx1 hy1 hF
  go_enter Tryz.func82, Tryz.ntmps82
  go_wp2_with fail
  refine (addTo_any (w.heap.size + 1 + 1 + 1) 0 (k + 1) (k + 1) b m m x y w1 (by omega) (by omega) hx0 (Int.lt_of_lt_of_le HX.out (bp_mono (by omega))) hy0 HY.out HF.out.cells HF.out.free ((HRY.out.below (B0.out.trans (HF.out.below.mono (by simp; omega)))).mono (by omega))).mono ?_
  rintro e w2 ⟨rfl, hC⟩
  have hF2 := HF.out.wrote hC
  have HF2 := Lib.hid hF2
  obtain ⟨hc2, _⟩ := below_cells hF2.below
  simp only [World.size_alloc] at hc2
  clear hC hF2 hc1
  go_wp2_with fail
  refine (trim_any _ (k + 1) (k + 1) (x + y) w2 (by omega) (sum_lt HX.out HY.out hk1 hk2) (by omega) (by omega) HF2.out.row).mono ?_
  rintro e w3 ⟨v, rfl, hv, hb⟩
  have hs3 := HF2.out.lt
  have hS : Slot w3 (w.heap.size + 1 + 1) 0 (.slice none 0 0) := (S0.out.below HF2.out.below (by simp)).below hb (by omega)
  obtain ⟨q1, q2⟩ := hS
  have HB3 := Lib.hid (B0.out.trans ((HF2.out.below.mono (by simp; omega)).trans (hb.mono (by omega))))
  have HV3 := Lib.hid hv
  obtain ⟨a', n', rfl, hn', _, _, _, _⟩ := hv.form
  have HN' := Lib.hid hn'
  clear hc2 hv hb hn'
  go_wp2
  exact bodyPost_ret (v := .agg #[.slice a' n' n']) (by simp [results, Tryz.results82, go_sem, q1]) rfl ⟨_, rfl, HV3.out.store q1 (fun _ e => by cases e) _, below_set HB3.out 0 (by omega) _⟩
end Go.Proofs.YtphbfjcaehiboaaGreatDoor
namespace Go.Proofs.YtphbfjcaehiboaaGreatDoor
open Go.RowKit

theorem small_any (n : Int) (w : World) (h0 : 0 ≤ n) (h1 : n < 1000000000) :
    Calls Tryz.prog 92 #[.int .u64 n] w (GivesN n w) := by
  have B0 := Lib.hid (((Below.refl w.heap.size w).alloc (Nat.le_refl _) (.cells #[.slice none 0 0] 64)).alloc (by simp) (.cells #[.int .u64 n] 101))
  have S0 : Hid (Slot ((w.alloc (.cells #[.slice none 0 0] 64)).alloc (.cells #[.int .u64 n] 101)) w.heap.size 0 (.slice none 0 0)) := (slot_new _ _ _ _ rfl).below ((Below.refl _ _).alloc (Nat.le_refl _) _) (by simp)
  have hR : Row ((w.alloc (.cells #[.slice none 0 0] 64)).alloc (.cells #[.int .u64 n] 101)) (w.heap.size + 1 + 1) (some ⟨w.heap.size + 1, 0, none⟩) 1 n := fun _ => ⟨_, _, rfl, by omega, fun j hj => by
    have : j = 0 := by omega
    subst this
    rw [World.cell?_alloc_at _ _ _ _ (by simp)]
    have e : lz n 0 = n := by unfold lz; rw [div_bp_zero, Int.emod_eq_of_lt h0 h1]
    rw [e]; rfl⟩
  have HR := Lib.hid hR
  clear hR
  go_enter Tryz.func92, Tryz.ntmps92
  go_wp2_with fail
  refine (trim_any _ 1 1 n _ h0 (by rw [bp_one]; exact h1) (by omega) (by omega) (by simpa using HR.out)).mono ?_
  rintro e w3 ⟨v, rfl, hv, hb⟩
  obtain ⟨q1, q2⟩ := S0.out.below hb (by simp; omega)
  have HB3 := Lib.hid (B0.out.trans (hb.mono (by simp; omega)))
  have HV3 := Lib.hid hv
  obtain ⟨a', n', rfl, hn', _, _, _, _⟩ := hv.form
  have HN' := Lib.hid hn'
  clear hv hb hn'
  go_wp2
  exact bodyPost_ret (v := .agg #[.slice a' n' n']) (by simp [results, Tryz.results92, go_sem, q1]) rfl ⟨_, rfl, HV3.out.store q1 (fun _ e => by cases e) _, below_set HB3.out 0 (by omega) _⟩

theorem isZero_any (u : Value) (x : Int) (w : World) (hu : NatV w u x) :
    Calls Tryz.prog 58 #[.agg #[u]] w fun e w' => e = .returned (.bool (decide (x = 0))) ∧ w.alloc (.cells #[u] 64) = w' := by
  obtain ⟨a, n, rfl, hn, hn1, hx0, hx1, hrx⟩ := hu.form
  have HN := Lib.hid hn
  clear hu hn hrx hx1
  go_enter Tryz.func58, Tryz.ntmps58
  go_wp2
  go_ret
  refine ⟨ret_bool ?_, rfl⟩
  have := nl_eq_zero hx0
  rw [← HN.out] at this
  by_cases h : x = 0
  · simp [h, this.2 h]
  · have hn0 : n ≠ 0 := fun e => h (this.1 e)
    simp [h]; omega

/-- The call hands back the integer z: its absolute value and its sign. -/
def GivesZ (z : Int) (w : World) (e : Ending) (w' : World) : Prop := ∃ v, e = .returned (.agg #[v, .bool (decide (z < 0))]) ∧ NatV w' v z.natAbs ∧ Below w.heap.size w w'
theorem signed_post {w W : World} {a : Option Addr} {n : Nat} {x z : Int} {b : Bool} (hu : NatV w (.slice a n n) x) (hb : Below w.heap.size w W) (hx : x = z.natAbs) (hz : b = decide (z < 0)) : GivesZ z w (.returned (.agg #[.slice a n n, .bool b])) W :=
  ⟨_, by rw [hz], by rw [← hx]; exact hu.below hb, hb⟩

theorem signed_no (u : Value) (x : Int) (w : World) (hu : NatV w u x) :
    Calls Tryz.prog 69 #[.agg #[u], .bool false] w (GivesZ x w) := by
  obtain ⟨a, n, rfl, hn, hn1, hx0, hx1, hrx⟩ := hu.form
  have HN := Lib.hid hn
  have HU := Lib.hid hu
  clear hu hn hrx hx1
  go_enter Tryz.func69, Tryz.ntmps69
  go_wp2
  go_region_with fail
  all_goals
    go_wp2
    exact bodyPost_ret (v := .agg #[.slice a n n, .bool false]) (by simp [results, Tryz.results69, go_sem]) rfl (signed_post HU.out (((((Below.refl _ _).alloc (Nat.le_refl _) _).alloc (by simp) _)).drew) (by omega) (by simp; omega))
theorem signed_yes0 (u : Value) (w : World) (hu : NatV w u 0) :
    Calls Tryz.prog 69 #[.agg #[u], .bool true] w (GivesZ 0 w) := by
  obtain ⟨a, n, rfl, hn, hn1, hx0, hx1, hrx⟩ := hu.form
  have HN := Lib.hid hn
  have HU := Lib.hid hu
  clear hu hn hrx hx1
  go_enter Tryz.func69, Tryz.ntmps69
  go_wp2
  go_region_with (go_at_call 58; refine (isZero_any _ 0 _ (by exact HU.out.below ((((Below.refl _ _).alloc (Nat.le_refl _) _).alloc (by simp) _).drew))).mono ?_; rintro e w' ⟨rfl, rfl⟩; rw [decide_eq_true rfl])
  all_goals
    go_wp2
    exact bodyPost_ret (v := .agg #[.slice a n n, .bool false]) (by simp [results, Tryz.results69, go_sem]) rfl (signed_post HU.out (((((Below.refl _ _).alloc (Nat.le_refl _) _).alloc (by simp) _).alloc (by simp; omega) _).drew) rfl rfl)
set_option maxHeartbeats 800000 in
theorem signed_yes1 (u : Value) (x : Int) (w : World) (hu : NatV w u x) (hx : 0 < x) :
    Calls Tryz.prog 69 #[.agg #[u], .bool true] w (GivesZ (-x) w) := by
  obtain ⟨a, n, rfl, hn, hn1, hx0, hx1, hrx⟩ := hu.form
  have HN := Lib.hid hn
  have HU := Lib.hid hu
  have hd := decide_eq_false (show ¬ x = 0 by omega)
  have HD := Lib.hid hd
  clear hu hn hrx hx1 hd
  go_enter Tryz.func69, Tryz.ntmps69
  go_wp2
  go_region_with (go_at_call 58; refine (isZero_any _ x _ (by exact HU.out.below ((((Below.refl _ _).alloc (Nat.le_refl _) _).alloc (by simp) _).drew))).mono ?_; rintro e w' ⟨rfl, rfl⟩; rw [HD.out])
  all_goals
    go_wp2
    exact bodyPost_ret (v := .agg #[.slice a n n, .bool true]) (by simp [results, Tryz.results69, go_sem]) rfl (signed_post HU.out (((((Below.refl _ _).alloc (Nat.le_refl _) _).alloc (by simp) _).alloc (by simp; omega) _).drew) (by omega) (by simp; omega))
theorem signed_any (u : Value) (b : Bool) (x : Int) (w : World) (hu : NatV w u x) :
    Calls Tryz.prog 69 #[.agg #[u], .bool b] w (GivesZ (if b then -x else x) w) := by
  cases b with
  | false => exact signed_no u x w hu
  | true =>
    rcases Int.lt_or_le 0 x with h | h
    · exact signed_yes1 u x w hu h
    · obtain rfl : x = 0 := by have := hu.1; omega
      exact signed_yes0 u w hu
end Go.Proofs.YtphbfjcaehiboaaGreatDoor
namespace Go.Proofs.YtphbfjcaehiboaaGreatDoor
open Go.RowKit

/-- The lowest n limbs of x as cells. -/
def ul (x : Int) (n : Nat) : List Value := (List.range n).map fun j => .int .u64 (lz x j)
theorem ul_length (x : Int) (n : Nat) : (ul x n).length = n := by simp [ul]
theorem ul_get (x : Int) (n j : Nat) (h : j < n) : (ul x n)[j]? = some (.int .u64 (lz x j)) := by simp [ul, h]
theorem ul_one (x : Int) (n : Nat) : ∀ u ∈ ul x n, u.oneCell' = true := by
  intro u hu
  simp only [ul, List.mem_map] at hu
  obtain ⟨j, _, rfl⟩ := hu
  rfl
theorem ul_snoc {x : Int} {n : Nat} (h0 : 0 ≤ x) (h1 : x < bp n) : ul x n ++ [.int .u64 0] = ul x (n + 1) := by
  unfold ul
  rw [List.range_succ, List.map_append, List.map_singleton, lz_high h0 h1 (Nat.le_refl _)]
/-- A row of the call's own that holds the limbs of x. -/
theorem fresh_own {w w1 : World} {v : Value} {n : Nat} {x : Int} (h : w1.ownsRow w.heap.size 101 1 v n (ul x n)) (hb : Below w.heap.size w w1) (hn : 0 < n) :
    ∃ g cap, v = .slice (some ⟨g, 0, none⟩) n cap ∧ n ≤ cap ∧ Fresh w w1 g n x := by
  rcases h.2 with ⟨_, h0⟩ | ⟨g, cap, cur, hv, hg, hh, hnc, _, _, _⟩
  · omega
  · subst hv
    refine ⟨g, cap, rfl, hnc, hb, hg, (Array.getElem?_eq_some_iff.1 hh).1, fun j hj => ?_, fun j _ => ?_⟩
    · rw [Nat.zero_add, h.cellAt j (by omega), ul_get x n j hj]
    · rw [Nat.zero_add, h.frozenAt]

theorem own_empty (w : World) : (w.alloc (.cells #[] 101)).ownsRow w.heap.size 101 1 (.slice (some ⟨w.heap.size, 0, none⟩) 0 0) 0 [] :=
  ⟨rfl, .inr ⟨w.heap.size, 0, #[], rfl, Nat.le_refl _, by show (w.heap.push _)[w.heap.size]? = _; simp, Nat.le_refl _, Nat.zero_le _, rfl, rfl⟩⟩
/-- The call hands back a row of its own. -/
def GivesO (x : Int) (n : Nat) (w : World) (e : Ending) (w' : World) : Prop := ∃ v, e = .returned v ∧ w'.ownsRow w.heap.size 101 1 v n (ul x n) ∧ Below w.heap.size w w'

theorem clone_some (g o n c : Nat) (x : Int) (w : World) (hn : n ≤ 100000) (hg : g < w.heap.size) (hc : ∀ j, j < n → w.cell? ⟨g, o + j, none⟩ = some (.int .u64 (lz x j))) :
    Calls Tryz.prog 115 #[.slice (some ⟨g, o, none⟩) n c] w (GivesO x n w) := by
  obtain ⟨i0, hi, hz0, hz1, hz2⟩ := info_parts infoU64
  have hnews : ∀ j u, (ul x n)[j]? = some u → (w.alloc (.cells #[] 101)).cell? ((⟨g, o, none⟩ : Addr).add j) = some u := by
    intro j u hu
    rw [WideShapes.add_plain, World.cell?_alloc_past _ _ _ hg]
    have hj : j < n := by
      rcases Nat.lt_or_ge j n with h | h
      · exact h
      · rw [List.getElem?_eq_none (by rw [ul_length]; exact h)] at hu; cases hu
    rw [ul_get x n j hj] at hu
    rw [hc j hj, hu]
  have q22 : ∀ (w : World) (a : Option Addr) (n c n' c' : Nat), (binOp .eql 62 (.slice a n c) (.slice none n' c')).run Tryz.prog w = .ok (.bool a.isNone) w := fun w a n c n' c' => Lib.run_eql_slice_nil w _ _ a n c n' c' undU64s
  have HN := Lib.hid hnews
  clear hc hnews
  go_enter Tryz.func115, Tryz.ntmps115
  go_wp2_with (at_builtin; refine wpList_append_own _ rfl _ _ 62 rfl w.heap.size 101 i0 (.int .u64 0) 1 8 undU64s hi hz0 hz1 hz2 rfl (by decide) _ _ _ rfl (own_empty w) ⟨g, o, none⟩ n c (ul x n) rfl ?c0 HN.out ?c2 ?c3 ?c4 ?c5 ?_)
  case c0 => rw [ul_length]; omega
  case c2 => exact ul_one x n
  case c3 => unfold maxLen; omega
  case c4 => omega
  case c5 => simp
  · intro v' w1 hown' hgrow _
    have hown : w1.ownsRow w.heap.size 101 1 v' n (ul x n) := by simpa using hown'
    have hb : Below w.heap.size w w1 := ((Below.refl _ _).alloc (Nat.le_refl _) _).grown hgrow (by simp) (fun k hk => by cases hk; exact Nat.le_refl _)
    have HI := Lib.hid hown
    have HB := Lib.hid hb
    clear hown hown' hgrow hb HN
    go_wp2
    go_ret
    exact ⟨_, rfl, HI.out, HB.out⟩

/-- A clone of nothing. -/
def GivesE (w : World) (e : Ending) (w' : World) : Prop := ∃ a c, e = .returned (.slice a 0 c) ∧ Below w.heap.size w w'
theorem clone_nil (w : World) : Calls Tryz.prog 115 #[.slice none 0 0] w (GivesE w) := by
  have q22 : ∀ (w : World) (a : Option Addr) (n c n' c' : Nat), (binOp .eql 62 (.slice a n c) (.slice none n' c')).run Tryz.prog w = .ok (.bool a.isNone) w := fun w a n c n' c' => Lib.run_eql_slice_nil w _ _ a n c n' c' undU64s
  go_enter Tryz.func115, Tryz.ntmps115
  go_wp2
  go_ret
  exact ⟨_, _, rfl, Below.refl _ _⟩
theorem clone_zero (ad : Addr) (w : World) : Calls Tryz.prog 115 #[.slice (some ad) 0 0] w (GivesE w) := by
  obtain ⟨i0, hi, hz0, hz1, hz2⟩ := info_parts infoU64
  have q22 : ∀ (w : World) (a : Option Addr) (n c n' c' : Nat), (binOp .eql 62 (.slice a n c) (.slice none n' c')).run Tryz.prog w = .ok (.bool a.isNone) w := fun w a n c n' c' => Lib.run_eql_slice_nil w _ _ a n c n' c' undU64s
  go_enter Tryz.func115, Tryz.ntmps115
  go_wp2_with (at_builtin; refine wpList_append_own _ rfl _ _ 62 rfl w.heap.size 101 i0 (.int .u64 0) 1 8 undU64s hi hz0 hz1 hz2 rfl (by decide) _ _ _ rfl (own_empty w) ad 0 0 [] rfl rfl ?c1 ?c2 ?c3 ?c4 ?c5 ?_)
  case c1 => intro j u hu; cases hu
  case c2 => intro u hu; cases hu
  case c3 => unfold maxLen; omega
  case c4 => omega
  case c5 => simp
  · intro v' w1 hown' hgrow _
    have hv : ∃ a c, v' = .slice a 0 c := by
      rcases hown'.2 with ⟨e, _⟩ | ⟨g, cap, _, e, _⟩
      · exact ⟨_, _, e⟩
      · exact ⟨_, _, e⟩
    obtain ⟨a, c, hv⟩ := hv
    have hb : Below w.heap.size w w1 := ((Below.refl _ _).alloc (Nat.le_refl _) _).grown hgrow (by simp) (fun k hk => by cases hk; exact Nat.le_refl _)
    have HB := Lib.hid hb
    clear hown' hgrow hb
    subst hv
    go_wp2
    go_ret
    exact ⟨_, _, rfl, HB.out⟩
theorem clone_none (a : Option Addr) (w : World) : Calls Tryz.prog 115 #[.slice a 0 0] w (GivesE w) := by
  cases a with
  | none => exact clone_nil w
  | some ad => exact clone_zero ad w

theorem takeFrom_none (a b : Option Addr) (c m d : Nat) (q : Int) (w : World) :
    Calls Tryz.prog 116 #[.slice a 0 c, .slice b m d, .int .u64 q] w fun e w' => e = .returned (.int .u64 0) ∧ w = w' := by
  go_enter Tryz.func116, Tryz.ntmps116
  go_wp2
  refine wp_loop_rounds 1 ?_
  rw [rounds_succ]
  go_wp2
  go_ret
  exact ⟨rfl, rfl⟩

/-! ### difference -/
theorem difference_pos (u v : Value) (x y : Int) (w : World) (hu : NatV w u x) (hv : NatV w v y) (hxy : y ≤ x) (hx : 0 < x) :
    Calls Tryz.prog 84 #[.agg #[u], .agg #[v]] w (GivesN (x - y) w) := by
  have hnn := nl_pos hx
  have hmn := nl_mono (by omega) hxy
  obtain ⟨a, n, rfl, hn, hn1, hx0, hx1, hrx⟩ := hu.form
  obtain ⟨b, m, rfl, hm, hm1, hy0, hy1, hry⟩ := hv.form
  rw [← hn] at hnn hmn
  rw [← hm] at hmn
  obtain ⟨g, o, rfl, hg, hc⟩ := hrx hnn
  have HX := Lib.hid hx1
  have HY := Lib.hid hy1
  have HRY := Lib.hid hry
  have B0 := Lib.hid ((((Below.refl w.heap.size w).alloc (Nat.le_refl _) (.cells #[.slice (some ⟨g, o, none⟩) n n] 64)).alloc (by simp) (.cells #[.slice b m m] 64)).alloc (by simp; omega) (.cells #[.slice none 0 0] 64))
  have S0 : Hid (Slot (((w.alloc (.cells #[.slice (some ⟨g, o, none⟩) n n] 64)).alloc (.cells #[.slice b m m] 64)).alloc (.cells #[.slice none 0 0] 64)) (w.heap.size + 1 + 1) 0 (.slice none 0 0)) := slot_new _ _ _ _ (by simp)
  have S1 : Hid (Slot (((w.alloc (.cells #[.slice (some ⟨g, o, none⟩) n n] 64)).alloc (.cells #[.slice b m m] 64)).alloc (.cells #[.slice none 0 0] 64)) (w.heap.size + 1) 0 (.slice b m m)) := (slot_new _ _ _ _ (by simp)).below ((Below.refl _ _).alloc (Nat.le_refl _) _) (by simp)
  have HC := Lib.hid hc
  clear hn hm hrx hry hu hv hx1 hy1 hc
  go_enter Tryz.func84, Tryz.ntmps84
  go_wp2_with fail
  refine (clone_some g o n n x _ (by omega) (by simp; omega) (fun j hj => (below_at B0.out _ hg).trans (HC.out j hj))).mono ?_
  rintro e w1 ⟨v1, rfl, hown, hb1⟩
  obtain ⟨g1, cap, rfl, hcap, hF⟩ := fresh_own hown hb1 hnn
  have HF := Lib.hid hF
  obtain ⟨p1, p2⟩ := S1.out.below hb1 (by simp)
  clear hown hb1 hF
  go_wp2_with fail
  refine (takeFrom_any g1 0 n cap b m m x y 1 w1 (by omega) (by omega) hx0 HX.out hy0 HY.out (by omega) (by omega) HF.out.cells HF.out.free ((HRY.out.below (B0.out.trans (HF.out.below.mono (by simp; omega)))).mono (by have := HF.out.ge; simp at this; omega))).mono ?_
  rintro e w2 ⟨rfl, hC⟩
  have HF2 := Lib.hid (HF.out.wrote hC)
  clear hC p1 p2
  go_wp2_with fail
  refine (trim_any _ n cap (x - 1 * y) w2 (by omega) (by have := HX.out; omega) (by omega) (by omega) HF2.out.row).mono ?_
  rintro e w3 ⟨v, rfl, hv, hb⟩
  have hs3 := HF2.out.lt
  have hs5 := HF2.out.ge
  simp only [World.size_alloc] at hs5
  have hS : Slot w3 (w.heap.size + 1 + 1) 0 (.slice none 0 0) := (S0.out.below HF2.out.below (by simp)).below hb (by omega)
  obtain ⟨q1, q2⟩ := hS
  have HB3 := Lib.hid (B0.out.trans ((HF2.out.below.mono (by simp; omega)).trans (hb.mono (by omega))))
  have HV3 := Lib.hid hv
  obtain ⟨a', n', rfl, hn', _, _, _, _⟩ := hv.form
  have HN' := Lib.hid hn'
  clear hv hb hn'
  go_wp2
  exact bodyPost_ret (v := .agg #[.slice a' n' n']) (by simp [results, Tryz.results84, go_sem, q1]) rfl ⟨_, rfl, (by have := HV3.out.store q1 (fun _ e => by cases e) (.slice a' n' n'); rwa [Int.one_mul] at this), below_set HB3.out 0 (by omega) _⟩
theorem difference_zero (u v : Value) (w : World) (hu : NatV w u 0) (hv : NatV w v 0) :
    Calls Tryz.prog 84 #[.agg #[u], .agg #[v]] w (GivesN 0 w) := by
  obtain ⟨_, _, a, rfl, _⟩ := hu
  obtain ⟨_, _, b, rfl, _⟩ := hv
  rw [nl_zero]
  have B0 := Lib.hid ((((Below.refl w.heap.size w).alloc (Nat.le_refl _) (.cells #[.slice a 0 0] 64)).alloc (by simp) (.cells #[.slice b 0 0] 64)).alloc (by simp; omega) (.cells #[.slice none 0 0] 64))
  have S0 : Hid (Slot (((w.alloc (.cells #[.slice a 0 0] 64)).alloc (.cells #[.slice b 0 0] 64)).alloc (.cells #[.slice none 0 0] 64)) (w.heap.size + 1 + 1) 0 (.slice none 0 0)) := slot_new _ _ _ _ (by simp)
  have S1 : Hid (Slot (((w.alloc (.cells #[.slice a 0 0] 64)).alloc (.cells #[.slice b 0 0] 64)).alloc (.cells #[.slice none 0 0] 64)) (w.heap.size + 1) 0 (.slice b 0 0)) := (slot_new _ _ _ _ (by simp)).below ((Below.refl _ _).alloc (Nat.le_refl _) _) (by simp)
  go_enter Tryz.func84, Tryz.ntmps84
  go_wp2_with fail
  refine (clone_none a _).mono ?_
  rintro e w1 ⟨a1, c1, rfl, hb1⟩
  have HB1 := Lib.hid hb1
  obtain ⟨p1, p2⟩ := S1.out.below hb1 (by simp)
  have hs1 := hb1.size
  simp only [World.size_alloc] at hs1
  clear hb1
  go_wp2_with fail
  refine (takeFrom_none a1 b c1 0 0 1 w1).mono ?_
  rintro e w2 ⟨rfl, rfl⟩
  go_wp2_with fail
  refine (trim_any a1 0 c1 0 w1 (by omega) (by rw [bp_zero]; omega) (by omega) (by omega) (fun h => absurd h (by omega))).mono ?_
  rintro e w3 ⟨v, rfl, hv, hb⟩
  obtain ⟨q1, q2⟩ := (S0.out.below HB1.out (by simp)).below hb (by omega)
  have HB3 := Lib.hid (B0.out.trans ((HB1.out.mono (by simp; omega)).trans (hb.mono (by omega))))
  have HV3 := Lib.hid hv
  obtain ⟨a', n', rfl, hn', _, _, _, _⟩ := hv.form
  have HN' := Lib.hid hn'
  clear hv hb hn' p1 p2
  go_wp2
  exact bodyPost_ret (v := .agg #[.slice a' n' n']) (by simp [results, Tryz.results84, go_sem, q1]) rfl ⟨_, rfl, HV3.out.store q1 (fun _ e => by cases e) _, below_set HB3.out 0 (by omega) _⟩
theorem difference_any (u v : Value) (x y : Int) (w : World) (hu : NatV w u x) (hv : NatV w v y) (hxy : y ≤ x) :
    Calls Tryz.prog 84 #[.agg #[u], .agg #[v]] w (GivesN (x - y) w) := by
  rcases Int.lt_or_le 0 x with h | h
  · exact difference_pos u v x y w hu hv hxy h
  · have h1 := hu.1
    have h2 := hv.1
    obtain rfl : x = 0 := by omega
    obtain rfl : y = 0 := by omega
    exact difference_zero u v w hu hv
end Go.Proofs.YtphbfjcaehiboaaGreatDoor
namespace Go.Proofs.YtphbfjcaehiboaaGreatDoor
open Go.RowKit

/-- -1, 0 or 1. -/
def cmp3 (x y : Int) : Int := if x < y then -1 else if y < x then 1 else 0
theorem cmp3_lt {x y : Int} (h : x < y) : cmp3 x y = -1 := by unfold cmp3; rw [if_pos h]
theorem cmp3_gt {x y : Int} (h : y < x) : cmp3 x y = 1 := by unfold cmp3; rw [if_neg (by omega), if_pos h]
theorem cmp3_eq (x : Int) : cmp3 x x = 0 := by unfold cmp3; rw [if_neg (by omega), if_neg (by omega)]

theorem cmpI_any (x y : Int) (w : World) : Calls Tryz.prog 41 #[.int .i64 x, .int .i64 y] w fun e w' => e = .returned (.int .i64 (cmp3 x y)) ∧ w = w' := by
  rcases Int.lt_trichotomy x y with h | h | h
  · rw [cmp3_lt h]
    go_enter Tryz.func41, Tryz.ntmps41
    go_wp2
    go_ret
    exact ⟨rfl, rfl⟩
  · subst h
    rw [cmp3_eq]
    go_enter Tryz.func41, Tryz.ntmps41
    go_wp2
    go_ret
    exact ⟨rfl, rfl⟩
  · rw [cmp3_gt h]
    go_enter Tryz.func41, Tryz.ntmps41
    go_wp2
    go_ret
    exact ⟨rfl, rfl⟩
theorem cmpU_any (x y : Int) (w : World) : Calls Tryz.prog 114 #[.int .u64 x, .int .u64 y] w fun e w' => e = .returned (.int .i64 (cmp3 x y)) ∧ w' = w := by
  rcases Int.lt_trichotomy x y with h | h | h
  · rw [cmp3_lt h]
    go_enter Tryz.func114, Tryz.ntmps114
    go_wp2
    go_ret
    exact ⟨rfl, rfl⟩
  · subst h
    rw [cmp3_eq]
    go_enter Tryz.func114, Tryz.ntmps114
    go_wp2
    go_ret
    exact ⟨rfl, rfl⟩
  · rw [cmp3_gt h]
    go_enter Tryz.func114, Tryz.ntmps114
    go_wp2
    go_ret
    exact ⟨rfl, rfl⟩

theorem cmpU_lt {x y : Int} (h : x < y) (w : World) : Calls Tryz.prog 114 #[.int .u64 x, .int .u64 y] w fun e w' => e = .returned (.int .i64 (-1)) ∧ w' = w := by have := cmpU_any x y w; rwa [cmp3_lt h] at this
theorem cmpU_gt {x y : Int} (h : y < x) (w : World) : Calls Tryz.prog 114 #[.int .u64 x, .int .u64 y] w fun e w' => e = .returned (.int .i64 1) ∧ w' = w := by have := cmpU_any x y w; rwa [cmp3_gt h] at this
theorem cmpU_eq (x : Int) (w : World) : Calls Tryz.prog 114 #[.int .u64 x, .int .u64 x] w fun e w' => e = .returned (.int .i64 0) ∧ w' = w := by have := cmpU_any x x w; rwa [cmp3_eq] at this
/-- The higher limbs decide. -/
theorem cmp_div {x y : Int} (k : Nat) (h : x / bp (k + 1) = y / bp (k + 1)) (hl : lz x k < lz y k) : x < y := by
  have h1 := div_split x k
  have h2 := div_split y k
  rcases Int.lt_or_le x y with h3 | h3
  · exact h3
  · have := Int.ediv_le_ediv (bp_pos k) h3
    omega

theorem below_drewN {B : Nat} {w w' : World} (h : Below B w w') (d : Nat) : Below B w (w'.drewN d) := ⟨h.os, h.tape, h.output, h.size, h.block⟩
def GivesI (t : Int) (w : World) (e : Ending) (w' : World) : Prop := e = .returned (.int .i64 t) ∧ Below w.heap.size w w'

theorem compare_long (u v : Value) (x y : Int) (w : World) (hu : NatV w u x) (hv : NatV w v y) (hne : nl x ≠ nl y) :
    Calls Tryz.prog 83 #[.agg #[u], .agg #[v]] w (GivesI (cmp3 x y) w) := by
  have hc : cmp3 (nl x) (nl y) = cmp3 x y ∧ (cmp3 (nl x) (nl y) != 0) = true := by
    rcases Nat.lt_or_ge (nl x) (nl y) with h | h
    · have : x < y := by
        rcases Int.lt_or_le x y with h3 | h3
        · exact h3
        · have := nl_mono hu.1 h3; omega
      rw [cmp3_lt this, cmp3_lt (by omega)]; exact ⟨rfl, rfl⟩
    · have : y < x := by
        rcases Int.lt_or_le y x with h3 | h3
        · exact h3
        · have := nl_mono hv.1 h3; omega
      rw [cmp3_gt this, cmp3_gt (by omega)]; exact ⟨rfl, rfl⟩
  obtain ⟨hc1, hc2⟩ := hc
  obtain ⟨a, n, rfl, hn, hn1, hx0, hx1, hrx⟩ := hu.form
  obtain ⟨b, m, rfl, hm, hm1, hy0, hy1, hry⟩ := hv.form
  rw [← hn, ← hm] at hc1 hc2
  have HC := Lib.hid hc1
  clear hn hm hrx hry hu hv hx1 hy1 hne hc1
  go_enter Tryz.func83, Tryz.ntmps83
  go_wp2_with fail
  refine (cmpI_any _ _ _).mono ?_
  rintro e w' ⟨rfl, rfl⟩
  go_wp2
  go_ret
  exact ⟨ret_int HC.out, ((Below.refl _ _).alloc (Nat.le_refl _) _).alloc (by simp) _⟩

theorem compare_same (u v : Value) (x y : Int) (w : World) (hu : NatV w u x) (hv : NatV w v y) (he : nl x = nl y) :
    Calls Tryz.prog 83 #[.agg #[u], .agg #[v]] w (GivesI (cmp3 x y) w) := by
  obtain ⟨a, n, rfl, hn, hn1, hx0, hx1, hrx⟩ := hu.form
  obtain ⟨b, m, rfl, hm, hm1, hy0, hy1, hry⟩ := hv.form
  obtain rfl : n = m := by omega
  have HX := Lib.hid hx1
  have HY := Lib.hid hy1
  have HRX := Lib.hid hrx
  have HRY := Lib.hid hry
  have hc0 : (cmp3 (n : Int) (n : Int) != 0) = false := by rw [cmp3_eq]; rfl
  have hb0 : ((Below.refl w.heap.size w).alloc (Nat.le_refl _) (.cells #[.slice a n n] 64)).alloc (by simp) (.cells #[.slice b n n] 64) = ((Below.refl w.heap.size w).alloc (Nat.le_refl _) (.cells #[.slice a n n] 64)).alloc (by simp) (.cells #[.slice b n n] 64) := rfl
  have B0 := Lib.hid (((Below.refl w.heap.size w).alloc (Nat.le_refl _) (.cells #[.slice a n n] 64)).alloc (by simp) (.cells #[.slice b n n] 64))
  clear hn hm hrx hry hu hv hx1 hy1 he hb0
  go_enter Tryz.func83, Tryz.ntmps83
  go_wp2_with fail
  refine (cmpI_any _ _ _).mono ?_
  rintro e w' ⟨rfl, rfl⟩
  go_wp2
  go_loopw [6, 7] (fun i _ wr => ∃ k d : Nat, k ≤ n ∧ i = .int .i64 ((k : Int) - 1) ∧ Hid (x / bp k = y / bp k) ∧ wr = ((w.alloc (.cells #[.slice a n n] 64)).alloc (.cells #[.slice b n n] 64)).drewN d) (fun i _ _ => (intOf i + 1).toNat)
  case atStart => exact ⟨n, 0, by omega, rfl, by show _ = _; rw [div_zero hx0 HX.out, div_zero hy0 HY.out], rfl⟩
  case round =>
    obtain ⟨k, d, hk, rfl, HK, rfl⟩ := hrel
    rcases Nat.eq_zero_or_pos k with hk0 | hk0
    · subst hk0
      have hxy : x = y := by have := HK.out; rwa [div_bp_zero, div_bp_zero] at this
      go_wp2
      go_ret
      exact ⟨ret_int (by rw [hxy, cmp3_eq]), below_drewN B0.out _⟩
    · obtain ⟨g, o, rfl, hg, hcx⟩ := HRX.out (by omega)
      obtain ⟨g', o', rfl, hg', hcy⟩ := HRY.out (by omega)
      have h1 := (below_at B0.out (o + (k - 1)) hg).trans (hcx (k - 1) (by omega))
      have h2 := (below_at B0.out (o' + (k - 1)) hg').trans (hcy (k - 1) (by omega))
      clear hcx hcy
      obtain ⟨W, hW⟩ : ∃ W, W = ((w.alloc (.cells #[.slice (some ⟨g, o, none⟩) n n] 64)).alloc (.cells #[.slice (some ⟨g', o', none⟩) n n] 64)).drewN d := ⟨_, rfl⟩
      have c1 : W.cell? ⟨w.heap.size, 0, none⟩ = some (.slice (some ⟨g, o, none⟩) n n) := by rw [hW]; show ((w.alloc _).alloc _).cell? _ = _; simp
      have c2 : W.cell? ⟨w.heap.size + 1, 0, none⟩ = some (.slice (some ⟨g', o', none⟩) n n) := by rw [hW]; show ((w.alloc _).alloc _).cell? _ = _; rw [World.cell?_alloc_at _ _ _ _ (by simp)]; rfl
      have h1' : W.cell? ⟨g, o + (k - 1), none⟩ = some (.int .u64 (lz x (k - 1))) := by rw [hW]; exact h1
      have h2' : W.cell? ⟨g', o' + (k - 1), none⟩ = some (.int .u64 (lz y (k - 1))) := by rw [hW]; exact h2
      have HB := Lib.hid (below_drewN B0.out d)
      rw [← hW] at HB ⊢
      have HW := Lib.hid hW
      clear hW HRX HRY h1 h2 B0
      have i1 : (0 : Int) ≤ (k : Int) - 1 := by omega
      have i2 : (k : Int) - 1 < (n : Int) := by omega
      have hb1 := lz_bd x (k - 1)
      have hb2 := lz_bd y (k - 1)
      have hk1 := Lib.hid (show k - 1 + 1 = k by omega)
      have hd1 := cmp_div (x := x) (y := y) (k - 1) (by rw [hk1.out]; exact HK.out)
      have hd2 := cmp_div (x := y) (y := x) (k - 1) (by rw [hk1.out]; exact HK.out.symm)
      have hd3 : lz x (k - 1) = lz y (k - 1) → x / bp (k - 1) = y / bp (k - 1) := fun e => by
        rw [div_split x, div_split y, hk1.out, HK.out, e]
      have D1 := Lib.hid hd1
      have D2 := Lib.hid hd2
      have D3 := Lib.hid hd3
      clear hd1 hd2 hd3
      generalize lz x (k - 1) = lx at *
      generalize lz y (k - 1) = ly at *
      rcases Int.lt_trichotomy lx ly with h | h | h
      · have hcc : ((-1 : Int) != 0) = true := rfl
        go_wp2_with fail
        go_quiet ((go_at_call 114; exact Calls.quiet_of_same (cmpU_lt h _)))
        go_wp2
        go_ret
        exact ⟨ret_int (cmp3_lt (D1.out h)).symm, below_drewN HB.out _⟩
      · subst h
        go_wp2_with fail
        go_quiet ((go_at_call 114; exact Calls.quiet_of_same (cmpU_eq lx _)))
        go_wp2
        go_roundw
        case rel => exact ⟨k - 1, _, by omega, by go_num, D3.out (by first | rfl | trivial), by rw [HW.out, World.drewN_drewN]⟩
        case measure => simp [intOf]; omega
      · have hcc : ((1 : Int) != 0) = true := rfl
        go_wp2_with fail
        go_quiet ((go_at_call 114; exact Calls.quiet_of_same (cmpU_gt h _)))
        go_wp2
        go_ret
        exact ⟨ret_int (cmp3_gt (D2.out h)).symm, below_drewN HB.out _⟩
theorem compare_any (u v : Value) (x y : Int) (w : World) (hu : NatV w u x) (hv : NatV w v y) :
    Calls Tryz.prog 83 #[.agg #[u], .agg #[v]] w (GivesI (cmp3 x y) w) := by
  by_cases h : nl x = nl y
  · exact compare_same u v x y w hu hv h
  · exact compare_long u v x y w hu hv h
end Go.Proofs.YtphbfjcaehiboaaGreatDoor
namespace Go.Proofs.YtphbfjcaehiboaaGreatDoor
open Go.RowKit

theorem digits_any (u : Value) (x : Int) (w : World) (hu : NatV w u x) :
    Calls Tryz.prog 93 #[.agg #[u]] w (GivesI (dn x) w) := by
  obtain ⟨a, n, rfl, hn, hn1, hx0, hx1, hrx⟩ := hu.form
  cases n with
  | zero =>
    have hx : dn x = 1 := by rw [(nl_eq_zero hx0).1 hn.symm, dn_zero]
    rw [hx]
    clear hn hx1 hrx hu hx
    go_enter Tryz.func93, Tryz.ntmps93
    go_wp2
    go_ret
    exact ⟨rfl, (Below.refl _ _).alloc (Nat.le_refl _) _⟩
  | succ n =>
    have hd := dn_split hx0 hn.symm
    have HD := Lib.hid hd
    have hl := ten_nl_limb x n
    have hb := lz_bd x n
    obtain ⟨g, o, rfl, hg, hc⟩ := hrx (by omega)
    have hc1 := hc n (by omega)
    generalize lz x n = t at *
    have hz : ((((n + 1 : Nat) : Int)) == 0) = false := by simp; omega
    clear hn hx1 hrx hu hd hc
    go_enter Tryz.func93, Tryz.ntmps93
    go_wp2
    go_loop [4, 5] (fun d s => ∃ (r : Int) (m : Nat), 0 ≤ r ∧ r ≤ 1000000000 ∧ m ≤ 9 ∧ Hid (m + Ten.nl r = Ten.nl t) ∧ s = .int .u64 r ∧ d = .int .i64 (((n : Int) * 9) + m)) (fun _ s => (intOf s).toNat)
    case atStart => exact ⟨t, 0, hb.1, by omega, by omega, by show _ = _; omega, rfl, by simp⟩
    case round =>
      obtain ⟨r, m, hr0, hr1, hm, HM, rfl, rfl⟩ := hrel
      rcases Int.lt_or_le 0 r with h | h
      · have hs := ten_nl_step h
        have hm9 : m < 9 := by have := HM.out; omega
        have HS := Lib.hid hs
        clear hs
        go_wp2
        go_round
        case rel => exact ⟨r / 10, m + 1, by omega, by omega, by omega, by show _ = _; have := HM.out; have := HS.out; omega, rfl, by go_num⟩
        case measure => simp [intOf]; omega
      · obtain rfl : r = 0 := by omega
        have hm0 := HM.out
        have e0 : Ten.nl 0 = 0 := Ten.nl_zero
        go_wp2
        go_ret
        exact ⟨ret_int (by rw [HD.out]; omega), (Below.refl _ _).alloc (Nat.le_refl _) _⟩
end Go.Proofs.YtphbfjcaehiboaaGreatDoor
namespace Go.Proofs.YtphbfjcaehiboaaGreatDoor
open Go.RowKit

set_option maxHeartbeats 800000 in
set_option maxRecDepth 100000 in
theorem product_any (u v : Value) (x y : Int) (w : World) (hu : NatV w u x) (hv : NatV w v y) (hx : nl x ≤ 40000) (hy : nl y ≤ 40000) :
    Calls Tryz.prog 89 #[.agg #[u], .agg #[v]] w (GivesN (x * y) w) := by
  obtain ⟨a, n, rfl, hn, hn1, hx0, hx1, hrx⟩ := hu.form
  obtain ⟨b, m, rfl, hm, hm1, hy0, hy1, hry⟩ := hv.form
  rw [← hn] at hx
  rw [← hm] at hy
  have HX := Lib.hid hx1
  have HY := Lib.hid hy1
  have HRX := Lib.hid hrx
  have HRY := Lib.hid hry
  have hmk := mk_u64 (n + m) (by omega)
  rw [show ((n + m : Nat) : Int) = (n : Int) + (m : Int) by omega] at hmk
  obtain ⟨W0, hW0⟩ : ∃ W0, W0 = (((w.alloc (.cells #[.slice a n n] 64)).alloc (.cells #[.slice b m m] 64)).alloc (.cells #[.slice none 0 0] 64)) := ⟨_, rfl⟩
  have hb0 : Below w.heap.size w W0 := by rw [hW0]; exact ((((Below.refl w.heap.size w).alloc (Nat.le_refl _) _).alloc (by simp) _).alloc (by simp; omega) _)
  have s0 : Slot W0 (w.heap.size + 1 + 1) 0 (.slice none 0 0) := by rw [hW0]; exact slot_new _ _ _ _ (by simp)
  have s1 : Slot W0 (w.heap.size + 1) 0 (.slice b m m) := by rw [hW0]; exact (slot_new _ _ _ _ (by simp)).below ((Below.refl _ _).alloc (Nat.le_refl _) _) (by simp)
  have z0 : W0.heap.size = w.heap.size + 1 + 1 + 1 := by rw [hW0]; simp
  have hF := Fresh.made W0 (n + m)
  rw [z0] at hF
  have B0 := Lib.hid hb0
  have S0 := Lib.hid s0
  have S1 := Lib.hid s1
  have HF := Lib.hid hF
  clear hn hm hrx hry hu hv hx1 hy1 hb0 s0 s1 hF
  go_enter Tryz.func89, Tryz.ntmps89
  go_wp2
  rw [← hW0]
  have Z0 := Lib.hid z0
  clear hW0 z0
  go_loopw [22] (fun i wr => ∃ k : Nat, k ≤ n ∧ i = .int .i64 k ∧ Fresh W0 wr (w.heap.size + 1 + 1 + 1) (n + m) (pz x y k)) (fun i _ => n - (intOf i).toNat)
  case atStart => exact ⟨0, by omega, rfl, by rw [pz_zero]; exact HF.out⟩
  case round =>
    obtain ⟨k, hk, rfl, hFr⟩ := hrel
    have HR := Lib.hid hFr
    clear hFr HF
    by_cases hlt : k < n
    · obtain ⟨g, o, rfl, hg, hcx⟩ := HRX.out (by omega)
      have h1 := (below_at HR.out.below (o + k) (by have := Z0.out; omega)).trans ((below_at B0.out (o + k) hg).trans (hcx k hlt))
      obtain ⟨c1, _⟩ := S1.out.below HR.out.below (by have := Z0.out; omega)
      have hb1 := lz_bd x k
      have hpc := pc_zero x y k
      have PC := Lib.hid hpc
      clear hcx hpc
      obtain ⟨lx, hlx⟩ : ∃ lx, lx = lz x k := ⟨_, rfl⟩
      rw [← hlx] at h1 hb1
      have HLX := Lib.hid hlx
      clear hlx
      rename World => wo
      go_wp2
      go_loopw [8, 30] (fun c j wr => ∃ p : Nat, p ≤ m ∧ j = .int .i64 p ∧ c = .int .u64 (pc x y k p) ∧ Cells wo wr (w.heap.size + 1 + 1 + 1) 0 (n + m) (fun q => if q < k + p then lz (pz x y (k + 1)) q else lz (pz x y k) q)) (fun _ j _ => m - (intOf j).toNat)
      case atStart =>
        exact ⟨0, by omega, rfl, by rw [PC.out], (Cells.start HR.out.cells).cong (fun q _ => by
          by_cases h : q < k + 0
          · rw [if_pos h, pz_low x y (by omega)]
          · rw [if_neg h])⟩
      case round =>
        obtain ⟨p, hp, rfl, rfl, hC⟩ := hrel
        have HC := Lib.hid hC
        clear hC
        by_cases hpm : p < m
        · obtain ⟨g', o', rfl, hg', hcy⟩ := HRY.out (by omega)
          have h2 := (HC.out.other (i := o' + p) (show g' ≠ w.heap.size + 1 + 1 + 1 by omega)).trans ((below_at HR.out.below (o' + p) (by have := Z0.out; omega)).trans ((below_at B0.out (o' + p) hg').trans (hcy p hpm)))
          have h3 := HC.out.cells (k + p) (by omega)
          rw [if_neg (by omega), Nat.zero_add] at h3
          have h4 := (HC.out.frozen (k + p)).trans (HR.out.free' (k + p) (by omega))
          have hb2 := lz_bd y p
          have hb3 := lz_bd (pz x y k) (k + p)
          obtain ⟨q0, q1⟩ := pc_bd x y k p
          have hst := pc_step x y k p
          rw [← HLX.out] at hst
          have ST := Lib.hid hst
          clear hcy hst
          generalize lz y p = ly at *
          generalize lz (pz x y k) (k + p) = lc at *
          generalize pc x y k p = c at *
          obtain ⟨m0, m1⟩ := limb_mul hb1 hb2
          go_wp2
          go_roundw
          case rel => exact ⟨p + 1, by omega, by go_num, by rw [← ST.out.2], by
            have := HC.out.set (i := k + p) (by omega) _ (f' := fun q => if q < k + (p + 1) then lz (pz x y (k + 1)) q else lz (pz x y k) q) (fun q hq => by
              by_cases e : q = k + p
              · subst e; rw [if_pos (by omega), if_pos rfl, ← ST.out.1]
              · rw [if_neg e]; by_cases h : q < k + p
                · rw [if_pos h, if_pos (by omega)]
                · rw [if_neg h, if_neg (by omega)])
            rw [Nat.zero_add] at this
            exact this⟩
          case measure => simp [intOf]; omega
        · obtain rfl : p = m := by omega
          have c2 : wr.cell? ⟨w.heap.size + 1, 0, none⟩ = some (.slice b p p) := (HC.out.other (by omega)).trans c1
          have h3 := HC.out.cells (k + p) (by omega)
          rw [Nat.zero_add] at h3
          have h4 := (HC.out.frozen (k + p)).trans (HR.out.free' (k + p) (by omega))
          have hla := pc_last x k hy0 HY.out
          have LA := Lib.hid hla
          clear hla c1
          have hal : Cells wo (wr.setCell ⟨w.heap.size + 1 + 1 + 1, k + p, none⟩ (.int .u64 (pc x y k p))) (w.heap.size + 1 + 1 + 1) 0 (n + p) (lz (pz x y (k + 1))) := by
            have := HC.out.set (i := k + p) (by omega) (pc x y k p) (f' := lz (pz x y (k + 1))) (fun q hq => by
              by_cases e : q = k + p
              · subst e; rw [if_pos rfl, LA.out]
              · rw [if_neg e]; by_cases h : q < k + p
                · rw [if_pos h]
                · rw [if_neg h, pz_high x k q hy0 HY.out (by omega)])
            rwa [Nat.zero_add] at this
          have AL := Lib.hid hal
          clear hal
          go_wp2
          go_roundw
          case rel => exact ⟨k + 1, by omega, by go_num, HR.out.wrote AL.out⟩
          case measure => simp [intOf]; omega
    · obtain rfl : k = n := by omega
      go_wp2_with fail
      refine (trim_any _ (k + m) (k + m) (pz x y k) _ (pz_bd x k hy0 HY.out).1 (pz_bd x k hy0 HY.out).2 (by omega) (by omega) HR.out.row).mono ?_
      rintro e w3 ⟨v, rfl, hv, hb⟩
      have hs3 := HR.out.lt
      have hz0 := Z0.out
      obtain ⟨q1, q2⟩ := (S0.out.below HR.out.below (by omega)).below hb (by omega)
      have HB3 := Lib.hid (B0.out.trans ((HR.out.below.mono (by omega)).trans (hb.mono (by omega))))
      rw [pz_end y hx0 HX.out] at hv
      have HV3 := Lib.hid hv
      obtain ⟨a', n', rfl, hn', _, _, _, _⟩ := hv.form
      have HN' := Lib.hid hn'
      clear hv hb hn' hz0
      go_wp2
      exact bodyPost_ret (v := .agg #[.slice a' n' n']) (by simp [results, Tryz.results89, go_sem, q1]) rfl ⟨_, rfl, HV3.out.store q1 (fun _ e => by cases e) _, below_set HB3.out 0 (by omega) _⟩
end Go.Proofs.YtphbfjcaehiboaaGreatDoor
