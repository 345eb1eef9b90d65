/-
  What the reference's Vector and Dense return.
-/
import Derived.Test.YtdhcffboaiajeaaDoorRCheck
import Derived.Test.YtdhcffboaiajeaaDoorDense
namespace Go.Proofs.YtdhcffboaiajeaaDoor
open Go.RowKit M

/-- Integers of a new block are handed back. -/
def GivesI (n : Nat) (f : Int → Int) (w : World) (e : Ending) (w' : World) : Prop := ∃ v, e = .returned v ∧ IntsF w' v n f ∧ (∀ k, v.ownBlock = some k → w.heap.size ≤ k) ∧ Below w.heap.size w w'
set_option maxHeartbeats 1000000 in
set_option maxRecDepth 100000 in
theorem rvector_any (p : Int) (n : Nat) (v : Value) (c : List Tm) (w : World) (cc : Col p c) (hr : ∀ t, t ∈ c → t.1 < n) (hn : n ≤ 1024) (hc : TermsV w v c) : Calls Tryd.prog 62 #[v, .int .i64 n] w (GivesI n (co c) w) := by
  obtain ⟨i0, hi, hz0, hz1, hz2⟩ := info_parts infoI
  obtain ⟨a, m, rfl, a1, a2, a3⟩ := hc
  unfold maxLen at a2
  have HR := Lib.hid hr
  clear hr
  go_enter Tryd.func62, Tryd.ntmps62
  go_wp2_with (at_make; refine wpList_make_full _ rfl _ _ 41 rfl w.heap.size 3 i0 (.int .i64 0) 1 Tryd.underlying41 hi hz0 hz1 .i64 .i64 _ _ n rfl rfl rfl rfl (by rw [hz2]; omega) (by unfold maxLen; omega) (Nat.le_refl _) ?_; intro w2 hr2 hg2)
  have V2 := VecN.made hr2
  have B2 := (Below.refl w.heap.size w).grown hg2 (Nat.le_refl _) (by simp)
  obtain ⟨kb, hkb⟩ : ∃ kb, kb = w.heap.size := ⟨_, rfl⟩
  rw [← hkb] at V2 ⊢
  have hkb0 : w.heap.size ≤ kb := by omega
  clear hr2 hg2 hkb
  go_loopw [6] (fun i wr => ∃ k : Nat, k ≤ c.length ∧ i = .int .i64 k ∧ VecN wr kb n (co (c.take k)) ∧ Below w.heap.size w wr) (fun i _ => c.length - (intOf i).toNat)
  case atStart => exact ⟨0, Nat.zero_le _, rfl, V2.congr (fun _ _ => rfl), B2⟩
  case round =>
    clear V2 B2
    obtain ⟨k, hk, rfl, hV, hB⟩ := hrel
    by_cases hlt : k < c.length
    · obtain ⟨g, o, rfl, hg, hcl⟩ := a3 (by omega)
      obtain ⟨c0, c1⟩ := hcl k hlt
      have hmem := List.getElem_mem hlt
      obtain ⟨r1, r2, r3, r4⟩ := mem_row cc hmem
      have r5 := HR.out _ hmem
      have hts := co_take_succ cc hlt
      obtain ⟨t, ht⟩ : ∃ t, t = c[k] := ⟨_, rfl⟩
      rw [← ht] at c0 c1 r1 r2 r3 r4 r5
      have hts' : ∀ i, co (c.take (k + 1)) i = if i = t.1 then t.2 else co (c.take k) i := by rw [ht]; exact hts
      clear hts ht
      obtain ⟨⟨row, y⟩, rfl⟩ : ∃ u, t = u := ⟨t, rfl⟩
      obtain ⟨r, rfl⟩ := Int.eq_ofNat_of_zero_le r1
      replace c0 := (hB.cell (p := ⟨g, o + k * 2, none⟩) hg).trans c0
      replace c1 := (hB.cell (p := ⟨g, o + k * 2 + 1, none⟩) hg).trans c1
      dsimp only at c0 c1 r1 r2 r3 r4 r5 hts'
      have HTS := Lib.hid hts'
      have r6 : r < n := by omega
      have f0 := hV.cell r r6
      have f1 := hV.free r
      have hkn : (k : Int) < c.length := by omega
      have HB := Lib.hid hB
      have HV := Lib.hid hV
      clear hcl hV hB hts'
      go_wp2
      go_still_tail 12, (by kernel_rfl)
      change wpList _ _ _ _ _ wr.drew
      go_wp2
      refine ⟨⟨k + 1, by omega, by go_num, ((HV.out.below (bel_drew (Below.refl _ _))).set r6 y).congr fun i _ => ?_, HB.out.drew.setCell (p := ⟨kb, r, none⟩) hkb0 _⟩, by simp [intOf]; omega⟩
      rw [HTS.out]
    · have hkx : k = c.length := by omega
      rw [hkx, List.take_length] at hV
      have R := Lib.hid (show GivesI n (co c) w (.returned (.slice (some ⟨kb, 0, none⟩) n n)) wr from ⟨_, rfl, hV.ints hn, fun j hj => by simp [Value.ownBlock] at hj; omega, hB⟩)
      clear hV hB a3
      go_wp2
      go_ret
      exact R.out
theorem rdense_bad (p n : Int) (v : Value) (c : List Tm) (w : World) (hc : TermsV w v c) (h : chk p c ≠ 0) : Calls Tryd.prog 31 #[.int .i64 p, v, .int .i64 n] w (GivesIE 0 (co c) (chk p c) w) := by
  have CA := Lib.hid (rcheck_any p v c w hc)
  obtain ⟨x, hx⟩ : ∃ x, x = chk p c := ⟨_, rfl⟩
  rw [← hx] at CA h ⊢
  have e0 : (x == 0) = false := beq_eq_false_iff_ne.2 h
  clear hx h hc
  go_enter Tryd.func31, Tryd.ntmps31
  go_wp2_with fail
  refine Calls.mono CA.out ?_
  rintro e w1 ⟨rfl, rfl⟩
  go_wp2
  go_ret2
  exact GivesIE.err (Below.refl _ _)
theorem rdense_shape (p n : Int) (v : Value) (c : List Tm) (w : World) (hc : TermsV w v c) (h : chk p c = 0) (hs : denS c n) : Calls Tryd.prog 31 #[.int .i64 p, v, .int .i64 n] w (GivesIE 0 (co c) 10 w) := by
  have CA := Lib.hid (rcheck_any p v c w hc)
  rw [h] at CA
  obtain ⟨a, m, rfl, a1, a2, a3⟩ := hc
  unfold maxLen at a2
  by_cases g1 : n < 0
  · have d1 : decide (n < 0) = true := decide_eq_true g1
    clear a3 h hs
    go_enter Tryd.func31, Tryd.ntmps31
    go_wp2_with fail
    refine Calls.mono CA.out ?_
    rintro e w1 ⟨rfl, rfl⟩
    go_wp2
    go_ret2
    exact GivesIE.err (Below.refl _ _)
  · have d1 : decide (n < 0) = false := decide_eq_false g1
    by_cases g2 : 1024 < n
    · have d2 : decide (1024 < n) = true := decide_eq_true g2
      clear a3 h hs
      go_enter Tryd.func31, Tryd.ntmps31
      go_wp2_with fail
      refine Calls.mono CA.out ?_
      rintro e w1 ⟨rfl, rfl⟩
      go_wp2
      go_ret2
      exact GivesIE.err (Below.refl _ _)
    · have d2 : decide (1024 < n) = false := decide_eq_false g2
      obtain ⟨c0, g3⟩ : c ≠ [] ∧ n ≤ low c := hs.elim (fun g => absurd g g1) (fun g => g.elim (fun g => absurd g g2) id)
      have hp := List.length_pos_iff.2 c0
      obtain ⟨g, o, rfl, hg, hcl⟩ := a3 hp
      obtain ⟨k, hk⟩ : ∃ k, c.length = k + 1 := ⟨c.length - 1, by omega⟩
      have e0 := (hcl k (by omega)).1
      rw [← low_last hk] at e0
      obtain ⟨lo, hlo⟩ : ∃ lo, lo = low c := ⟨_, rfl⟩
      rw [← hlo] at e0 g3
      have d3 : decide (n ≤ lo) = true := decide_eq_true g3
      rw [hk] at a1 CA ⊢
      clear a3 h hs hcl hk hp hlo c0
      go_enter Tryd.func31, Tryd.ntmps31
      go_wp2_with fail
      refine Calls.mono CA.out ?_
      rintro e w1 ⟨rfl, rfl⟩
      go_wp2
      go_ret2
      exact GivesIE.err (Below.refl _ _)
theorem rdense_ok (p : Int) (n : Nat) (v : Value) (c : List Tm) (w : World) (hc : TermsV w v c) (h : chk p c = 0) (hs : ¬ denS c n) : Calls Tryd.prog 31 #[.int .i64 p, v, .int .i64 n] w (GivesIE n (co c) 0 w) := by
  have cc := (chk_zero.1 h).2
  have CA := Lib.hid (rcheck_any p v c w hc)
  rw [h] at CA
  have hn : n ≤ 1024 := by
    rcases Nat.lt_or_ge 1024 n with g | g
    · exact absurd (.inr (.inl (by omega))) hs
    · exact g
  have hlw : c ≠ [] → low c < n := fun h0 => by
    rcases Int.lt_or_le (low c) n with g | g
    · exact g
    · exact absurd (.inr (.inr ⟨h0, g⟩)) hs
  have hr : ∀ t, t ∈ c → t.1 < n := fun t ht => by
    have := row_le_low cc t ht
    have := hlw (fun e => by rw [e] at ht; cases ht)
    omega
  have VE := Lib.hid (rvector_any p n v c w cc hr hn hc)
  obtain ⟨a, m, rfl, a1, a2, a3⟩ := hc
  unfold maxLen at a2
  have d1 : decide ((n : Int) < 0) = false := decide_eq_false (by omega)
  have d2 : decide ((1024 : Int) < n) = false := decide_eq_false (by omega)
  by_cases c0 : c = []
  · subst c0
    clear a3 h hs hr hlw
    go_enter Tryd.func31, Tryd.ntmps31
    go_wp2_with fail
    refine Calls.mono CA.out ?_
    rintro e w1 ⟨rfl, rfl⟩
    go_wp2_with fail
    refine Calls.mono VE.out ?_
    rintro e w2 ⟨v2, rfl, hI, hf, hb⟩
    have R := Lib.hid (show GivesIE n (co []) 0 w (.returned (.tuple #[v2, .int .i64 0])) w2 from ⟨v2, rfl, hI, hf, hb⟩)
    clear hI hf hb
    go_wp2
    go_ret2
    exact R.out
  · have hp := List.length_pos_iff.2 c0
    obtain ⟨g, o, rfl, hg, hcl⟩ := a3 hp
    obtain ⟨k, hk⟩ : ∃ k, c.length = k + 1 := ⟨c.length - 1, by omega⟩
    have e0 := (hcl k (by omega)).1
    rw [← low_last hk] at e0
    have g3 := hlw c0
    obtain ⟨lo, hlo⟩ : ∃ lo, lo = low c := ⟨_, rfl⟩
    rw [← hlo] at e0 g3
    have d3 : decide ((n : Int) ≤ lo) = false := decide_eq_false (by omega)
    rw [hk] at a1 CA VE ⊢
    clear a3 h hs hr hlw hcl hk hp hlo c0
    go_enter Tryd.func31, Tryd.ntmps31
    go_wp2_with fail
    refine Calls.mono CA.out ?_
    rintro e w1 ⟨rfl, rfl⟩
    go_wp2_with fail
    refine Calls.mono VE.out ?_
    rintro e w2 ⟨v2, rfl, hI, hf, hb⟩
    have R := Lib.hid (show GivesIE n (co c) 0 w (.returned (.tuple #[v2, .int .i64 0])) w2 from ⟨v2, rfl, hI, hf, hb⟩)
    clear hI hf hb
    go_wp2
    go_ret2
    exact R.out
theorem rdense_any (p n : Int) (v : Value) (c : List Tm) (w : World) (hc : TermsV w v c) : Calls Tryd.prog 31 #[.int .i64 p, v, .int .i64 n] w (GivesIE (if denE p c n = 0 then n.toNat else 0) (co c) (denE p c n) w) := by
  unfold denE
  by_cases h : chk p c = 0
  · by_cases hs : denS c n
    · rw [if_pos h, if_pos hs, if_neg (by omega)]
      exact rdense_shape p n v c w hc h hs
    · rw [if_pos h, if_neg hs, if_pos rfl]
      have h0 : 0 ≤ n := by
        rcases Int.lt_or_le n 0 with g | g
        · exact absurd (.inl g) hs
        · exact g
      obtain ⟨m, rfl⟩ := Int.eq_ofNat_of_zero_le h0
      exact rdense_ok p m v c w hc h hs
  · rw [if_neg h, if_neg h]
    exact rdense_bad p n v c w hc h
end Go.Proofs.YtdhcffboaiajeaaDoor
