/-
  What Dense returns.
-/
import Derived.Test.YtdhcffboaiajeaaDoorApi2
namespace Go.Proofs.YtdhcffboaiajeaaDoor
open Go.RowKit M

/-- Block k holds n integers, f i at i. -/
structure VecN (w : World) (k n : Nat) (f : Int → Int) : Prop where
  lt : k < w.heap.size
  cell : ∀ i : Nat, i < n → w.cell? ⟨k, i, none⟩ = some (.int .i64 (f i))
  free : ∀ i : Nat, w.frozen? ⟨k, i, none⟩ = false
theorem VecN.by {w w' : World} {k n : Nat} {f : Int → Int} (h : VecN w k n f) (hz : w.heap.size ≤ w'.heap.size) (hk : w'.heap[k]? = w.heap[k]?) : VecN w' k n f :=
  ⟨Nat.lt_of_lt_of_le h.lt hz, fun i hi => (World.cell?_of_block (a := ⟨k, i, none⟩) hk).trans (h.cell i hi), fun i => (World.frozen?_of_block (a := ⟨k, i, none⟩) hk).trans (h.free i)⟩
theorem VecN.below {w w' : World} {k n : Nat} {f : Int → Int} (h : VecN w k n f) (hb : Below w.heap.size w w') : VecN w' k n f := h.by hb.size (hb.block k h.lt)
theorem VecN.congr {w : World} {k n : Nat} {f g : Int → Int} (h : VecN w k n f) (e : ∀ i : Nat, i < n → f i = g i) : VecN w k n g := ⟨h.lt, fun i hi => by rw [h.cell i hi, e i hi], h.free⟩
theorem VecN.set {w : World} {k n : Nat} {f : Int → Int} (h : VecN w k n f) {r : Nat} (hr : r < n) (x : Int) : VecN (w.setCell ⟨k, r, none⟩ (.int .i64 x)) k n (fun i => if i = r then x else f i) := by
  refine ⟨by simp [World.setCell]; exact h.lt, fun i hi => ?_, fun i => by rw [World.frozen?_setCell]; exact h.free i⟩
  by_cases e : i = r
  · subst e
    rw [if_pos rfl]
    exact World.cell?_setCell_same' _ _ _ (by rw [h.cell i hi]; rfl)
  · rw [if_neg (by omega), World.cell?_setCell_other w _ _ _ (by intro c; injection c with _ c; omega)]
    exact h.cell i hi
theorem infoI : (Tryd.prog.info? 3).map (fun i => (i.zero, i.size, i.bytes)) = some (some (.int .i64 0), 1, 8) := by kernel_rfl
theorem VecN.made {w : World} {B k n : Nat} (h : w.ownsRow B 3 1 (.slice (some ⟨k, 0, none⟩) n n) n (madeCells (Value.int .i64 0).cells (n * 1)).toList) : VecN w k n (fun _ => 0) := by
  refine ⟨(h.lt k rfl).2, fun i hi => ?_, fun i => h.frozenAt i⟩
  rw [h.cellAt i (by omega), Array.getElem?_toList]
  simp [madeCells, Value.cells, hi, Nat.mod_one]
theorem VecN.ints {w : World} {k n : Nat} {f : Int → Int} (h : VecN w k n f) (hn : n ≤ 1024) : IntsF w (.slice (some ⟨k, 0, none⟩) n n) n f :=
  ⟨_, _, rfl, Nat.le_refl _, by unfold maxLen; omega, fun _ => ⟨k, 0, rfl, h.lt, fun i hi => by rw [Nat.zero_add]; exact h.cell i hi⟩⟩
/-- Integers and an error number are handed back. -/
def GivesIE (n : Nat) (f : Int → Int) (x : Int) (w : World) (e : Ending) (w' : World) : Prop := ∃ v, e = .returned (.tuple #[v, .int .i64 x]) ∧ IntsF w' v n f ∧ (∀ k, v.ownBlock = some k → w.heap.size ≤ k) ∧ Below w.heap.size w w'
theorem GivesIE.err {f : Int → Int} {n : Int} {w w' : World} (h : Below w.heap.size w w') : GivesIE 0 f n w (.returned (.tuple #[.slice none 0 0, .int .i64 n])) w' :=
  ⟨_, rfl, ⟨none, 0, rfl, Nat.le_refl _, Nat.zero_le _, fun h => absurd h (by omega)⟩, fun k hk => by simp [Value.ownBlock] at hk, h⟩
def denS (c : List Tm) (n : Int) : Prop := n < 0 ∨ 1024 < n ∨ (c ≠ [] ∧ n ≤ low c)
instance (c : List Tm) (n : Int) : Decidable (denS c n) := by unfold denS; infer_instance
/-- What Dense finds. -/
def denE (p : Int) (c : List Tm) (n : Int) : Int := if chk p c = 0 then if denS c n then 10 else 0 else chk p c
theorem dense_bad (p n : Int) (v : Value) (c : List Tm) (w : World) (tb : Tab w) (hc : TermsV w v c) (h : chk p c ≠ 0) : Calls Tryd.prog 30 #[.int .i64 p, v, .int .i64 n] w (GivesIE 0 (co c) (chk p c) w) := by
  have CA := Lib.hid (check_any p v c w tb hc)
  obtain ⟨x, hx⟩ : ∃ x, x = chk p c := ⟨_, rfl⟩
  rw [← hx] at CA h ⊢
  have e0 : (x == 0) = false := beq_eq_false_iff_ne.2 h
  clear hx h tb hc
  go_enter Tryd.func30, Tryd.ntmps30
  go_wp2_with fail
  refine Calls.mono CA.out ?_
  rintro e w1 ⟨rfl, hb1⟩
  have B1 := Lib.hid hb1
  clear hb1
  go_wp2
  go_ret2
  exact GivesIE.err B1.out
theorem dense_shape (p n : Int) (v : Value) (c : List Tm) (w : World) (tb : Tab w) (hc : TermsV w v c) (h : chk p c = 0) (hs : denS c n) : Calls Tryd.prog 30 #[.int .i64 p, v, .int .i64 n] w (GivesIE 0 (co c) 10 w) := by
  have CA := Lib.hid (check_any p v c w tb hc)
  rw [h] at CA
  have CL := Lib.hid (fun W (hb : Below w.heap.size w W) => low_any v c W (hc.below hb))
  obtain ⟨lo, hlo⟩ : ∃ lo, lo = low c := ⟨_, rfl⟩
  obtain ⟨b, hb⟩ : ∃ b, b = decide (c ≠ []) := ⟨_, rfl⟩
  have hd : n < 0 ∨ 1024 < n ∨ (b = true ∧ n ≤ lo) := by
    rcases hs with g | g | g
    · exact .inl g
    · exact .inr (.inl g)
    · exact .inr (.inr ⟨by rw [hb]; exact decide_eq_true g.1, by rw [hlo]; exact g.2⟩)
  rw [← hlo, ← hb] at CL
  clear h tb hc hs hlo hb
  rcases hd with g | g | ⟨rfl, g⟩
  · have d1 : decide (n < 0) = true := decide_eq_true g
    go_enter Tryd.func30, Tryd.ntmps30
    go_wp2_with fail
    refine Calls.mono CA.out ?_
    rintro e w1 ⟨rfl, hb1⟩
    have B1 := Lib.hid hb1
    clear hb1
    go_wp2_with fail
    refine Calls.mono (CL.out w1 B1.out) ?_
    rintro e w3 ⟨rfl, rfl⟩
    go_wp2
    go_ret2
    exact GivesIE.err B1.out
  · have d1 : decide (n < 0) = false := decide_eq_false (by omega)
    have d2 : decide (1024 < n) = true := decide_eq_true g
    go_enter Tryd.func30, Tryd.ntmps30
    go_wp2_with fail
    refine Calls.mono CA.out ?_
    rintro e w1 ⟨rfl, hb1⟩
    have B1 := Lib.hid hb1
    clear hb1
    go_wp2_with fail
    refine Calls.mono (CL.out w1 B1.out) ?_
    rintro e w3 ⟨rfl, rfl⟩
    go_wp2
    go_ret2
    exact GivesIE.err B1.out
  · by_cases g1 : n < 0
    · have d1 : decide (n < 0) = true := decide_eq_true g1
      go_enter Tryd.func30, Tryd.ntmps30
      go_wp2_with fail
      refine Calls.mono CA.out ?_
      rintro e w1 ⟨rfl, hb1⟩
      have B1 := Lib.hid hb1
      clear hb1
      go_wp2_with fail
      refine Calls.mono (CL.out w1 B1.out) ?_
      rintro e w3 ⟨rfl, rfl⟩
      go_wp2
      go_ret2
      exact GivesIE.err B1.out
    · have d1 : decide (n < 0) = false := decide_eq_false g1
      have d3 : decide (n ≤ lo) = true := decide_eq_true g
      go_enter Tryd.func30, Tryd.ntmps30
      go_wp2_with fail
      refine Calls.mono CA.out ?_
      rintro e w1 ⟨rfl, hb1⟩
      have B1 := Lib.hid hb1
      clear hb1
      go_wp2_with fail
      refine Calls.mono (CL.out w1 B1.out) ?_
      rintro e w3 ⟨rfl, rfl⟩
      by_cases g2 : 1024 < n
      · have d2 : decide (1024 < n) = true := decide_eq_true g2
        go_wp2
        go_ret2
        exact GivesIE.err B1.out
      · have d2 : decide (1024 < n) = false := decide_eq_false g2
        go_wp2
        go_ret2
        exact GivesIE.err B1.out
set_option maxHeartbeats 1000000 in
set_option maxRecDepth 100000 in
theorem dense_ok (p : Int) (n : Nat) (v : Value) (c : List Tm) (w : World) (tb : Tab w) (hc : TermsV w v c) (h : chk p c = 0) (hs : ¬ denS c n) : Calls Tryd.prog 30 #[.int .i64 p, v, .int .i64 n] w (GivesIE n (co c) 0 w) := by
  obtain ⟨i0, hi, hz0, hz1, hz2⟩ := info_parts infoI
  have cc := (chk_zero.1 h).2
  have CA := Lib.hid (check_any p v c w tb hc)
  rw [h] at CA
  have CL := Lib.hid (fun W (hb : Below w.heap.size w W) => low_any v c W (hc.below hb))
  have hr : ∀ t, t ∈ c → t.1 < n := by
    intro t ht
    have := row_le_low cc t ht
    have h0 : c ≠ [] := fun e => by rw [e] at ht; cases ht
    rcases Int.lt_or_le (low c) n with g | g
    · omega
    · exact absurd (.inr (.inr ⟨h0, g⟩)) hs
  obtain ⟨lo, hlo⟩ : ∃ lo, lo = low c := ⟨_, rfl⟩
  obtain ⟨b, hb⟩ : ∃ b, b = decide (c ≠ []) := ⟨_, rfl⟩
  rw [← hlo, ← hb] at CL
  have hn : n ≤ 1024 := by
    rcases Nat.lt_or_ge 1024 n with g | g
    · exact absurd (.inr (.inl (by omega))) hs
    · exact g
  have hd : b = false ∨ (b = true ∧ ¬ (n : Int) ≤ lo) := by
    by_cases g : c = []
    · left; rw [hb]; simp [g]
    · right; rw [hlo, hb]; exact ⟨decide_eq_true g, fun e => hs (.inr (.inr ⟨g, e⟩))⟩
  obtain ⟨a, m, rfl, a1, a2, a3⟩ := hc
  unfold maxLen at a2
  have d1 : decide ((n : Int) < 0) = false := decide_eq_false (by omega)
  have d2 : decide ((1024 : Int) < n) = false := decide_eq_false (by omega)
  have HR := Lib.hid hr
  clear h tb hs hlo hb hr
  rcases hd with rfl | ⟨rfl, hd⟩
  all_goals
    go_enter Tryd.func30, Tryd.ntmps30
    go_wp2_with fail
    refine Calls.mono CA.out ?_
    rintro e w1 ⟨rfl, hb1⟩
    have B1 := Lib.hid hb1
    clear hb1
    go_wp2_with fail
    refine Calls.mono (CL.out w1 B1.out) ?_
    rintro e w3 ⟨rfl, rfl⟩
    go_wp2_with (at_make; refine wpList_make_full _ rfl _ _ 41 rfl w.heap.size 3 i0 (.int .i64 0) 1 Tryd.underlying41 hi hz0 hz1 .i64 .i64 _ _ n rfl rfl rfl rfl (by rw [hz2]; omega) (by unfold maxLen; omega) B1.out.size ?_; intro w2 hr2 hg2)
    have V2 := VecN.made hr2
    have B2 := B1.out.grown hg2 B1.out.size (by simp)
    obtain ⟨kb, hkb⟩ : ∃ kb, kb = w1.heap.size := ⟨_, rfl⟩
    rw [← hkb] at V2 ⊢
    have hkb0 : w.heap.size ≤ kb := by rw [hkb]; exact B1.out.size
    clear hr2 hg2 hkb
    go_loopw [43] (fun i wr => ∃ k : Nat, k ≤ c.length ∧ i = .int .i64 k ∧ VecN wr kb n (co (c.take k)) ∧ Below w.heap.size w wr) (fun i _ => c.length - (intOf i).toNat)
    case atStart => exact ⟨0, Nat.zero_le _, rfl, V2.congr (fun _ _ => rfl), B2⟩
    case round =>
      clear V2 B2
      obtain ⟨k, hk, rfl, hV, hB⟩ := hrel
      by_cases hlt : k < c.length
      · obtain ⟨g, o, rfl, hg, hcl⟩ := a3 (by omega)
        obtain ⟨c0, c1⟩ := hcl k hlt
        have hmem := List.getElem_mem hlt
        obtain ⟨r1, r2, r3, r4⟩ := mem_row cc hmem
        have r5 := HR.out _ hmem
        have hts := co_take_succ cc hlt
        obtain ⟨t, ht⟩ : ∃ t, t = c[k] := ⟨_, rfl⟩
        rw [← ht] at c0 c1 r1 r2 r3 r4 r5
        have hts' : ∀ i, co (c.take (k + 1)) i = if i = t.1 then t.2 else co (c.take k) i := by rw [ht]; exact hts
        clear hts ht
        obtain ⟨⟨row, y⟩, rfl⟩ : ∃ u, t = u := ⟨t, rfl⟩
        obtain ⟨r, rfl⟩ := Int.eq_ofNat_of_zero_le r1
        replace c0 := (hB.cell (p := ⟨g, o + k * 2, none⟩) hg).trans c0
        replace c1 := (hB.cell (p := ⟨g, o + k * 2 + 1, none⟩) hg).trans c1
        dsimp only at c0 c1 r1 r2 r3 r4 r5 hts'
        have HTS := Lib.hid hts'
        have r6 : r < n := by omega
        go_upto_region 11 with fail
        obtain ⟨W1, hW1⟩ : ∃ W1, W1 = wr.alloc (.cells #[.int .i64 (r : Int), .int .i64 y] 37) := ⟨_, rfl⟩
        rw [← hW1]
        have B3 : Below wr.heap.size wr W1 := by rw [hW1]; exact (Below.refl _ wr).alloc (Nat.le_refl _) _
        have e0 : W1.cell? ⟨wr.heap.size, 0, none⟩ = some (.int .i64 r) := by rw [hW1, World.cell?_alloc_at _ _ _ _ rfl]; rfl
        have e1 : W1.cell? ⟨wr.heap.size, 1, none⟩ = some (.int .i64 y) := by rw [hW1, World.cell?_alloc_at _ _ _ _ rfl]; rfl
        have V3 := hV.below B3
        have f0 := V3.cell r r6
        have f1 := V3.free r
        have HB := Lib.hid (hB.trans (B3.mono hB.size))
        have HV := Lib.hid V3
        clear hW1 B3 c0 c1 hcl hV hB V3 hts'
        go_wp2
        refine ⟨⟨k + 1, by omega, by go_num, ((HV.out.set r6 y).congr fun i _ => ?_), HB.out.setCell (p := ⟨kb, r, none⟩) hkb0 _⟩, by simp [intOf]; omega⟩
        rw [HTS.out]
      · have hkx : k = c.length := by omega
        rw [hkx, List.take_length] at hV
        have HV := Lib.hid hV
        have HB := Lib.hid hB
        clear hV hB a3
        go_wp2
        go_ret2
        exact ⟨_, rfl, HV.out.ints hn, fun j hj => by simp [Value.ownBlock] at hj; omega, HB.out⟩
theorem dense_col (p n : Int) (v : Value) (c : List Tm) (w : World) (tb : Tab w) (hc : TermsV w v c) : Calls Tryd.prog 30 #[.int .i64 p, v, .int .i64 n] w (GivesIE (if denE p c n = 0 then n.toNat else 0) (co c) (denE p c n) w) := by
  unfold denE
  by_cases h : chk p c = 0
  · by_cases hs : denS c n
    · rw [if_pos h, if_pos hs, if_neg (by omega)]
      exact dense_shape p n v c w tb hc h hs
    · rw [if_pos h, if_neg hs, if_pos rfl]
      obtain ⟨m, rfl⟩ := Int.eq_ofNat_of_zero_le (show 0 ≤ n by
        rcases Int.lt_or_le n 0 with g | g
        · exact absurd (.inl g) hs
        · exact g)
      exact dense_ok p m v c w tb hc h hs
  · rw [if_neg h, if_neg h]
    exact dense_bad p n v c w tb hc h
end Go.Proofs.YtdhcffboaiajeaaDoor
