/-
  What the statements' helpers exA, exB, is and plus return.
-/
import Derived.Test.YtdhcffboaiajeaaDoorAwM
import Derived.Test.YtdhcffboaiajeaaDoorSame
namespace Go.Proofs.YtdhcffboaiajeaaDoor
open Go.RowKit M

/-- A column laid in a new block. -/
theorem laid2 (w : World) (a b c d : Int) (t : TypeId) : TermsV (w.alloc (.cells #[.int .i64 a, .int .i64 b, .int .i64 c, .int .i64 d] t)) (.slice (some ⟨w.heap.size, 0, none⟩) 2 2) [(a, b), (c, d)] :=
  ⟨_, 2, rfl, Nat.le_refl _, by unfold maxLen; omega, fun _ => ⟨w.heap.size, 0, rfl, by simp, fun i hi => by
    match i, hi with
    | 0, _ => exact ⟨by rw [World.cell?_alloc_at _ _ _ _ rfl]; rfl, by rw [World.cell?_alloc_at _ _ _ _ rfl]; rfl⟩
    | 1, _ => exact ⟨by rw [World.cell?_alloc_at _ _ _ _ rfl]; rfl, by rw [World.cell?_alloc_at _ _ _ _ rfl]; rfl⟩⟩⟩
theorem laid1 (w : World) (a b : Int) (t : TypeId) : TermsV (w.alloc (.cells #[.int .i64 a, .int .i64 b] t)) (.slice (some ⟨w.heap.size, 0, none⟩) 1 1) [(a, b)] :=
  ⟨_, 1, rfl, Nat.le_refl _, by unfold maxLen; omega, fun _ => ⟨w.heap.size, 0, rfl, by simp, fun i hi => by
    match i, hi with
    | 0, _ => exact ⟨by rw [World.cell?_alloc_at _ _ _ _ rfl]; rfl, by rw [World.cell?_alloc_at _ _ _ _ rfl]; rfl⟩⟩⟩
/-- A list of columns laid in a new block. -/
theorem laidL2 (w : World) (u v : Value) (a b : List Tm) (t : TypeId) (ha : TermsV w u a) (hb : TermsV w v b) : ListV (w.alloc (.cells #[u, v] t)) (.slice (some ⟨w.heap.size, 0, none⟩) 2 2) [a, b] :=
  ⟨_, 2, rfl, Nat.le_refl _, by unfold maxLen; omega, fun _ => ⟨w.heap.size, 0, rfl, by simp, fun i hi => by
    match i, hi with
    | 0, _ => exact ⟨u, by rw [World.cell?_alloc_at _ _ _ _ rfl]; rfl, ha.alloc _⟩
    | 1, _ => exact ⟨v, by rw [World.cell?_alloc_at _ _ _ _ rfl]; rfl, hb.alloc _⟩⟩⟩
theorem exA_any (w : World) : Calls Tryd.prog 51 #[] w (GivesC cA w) := by
  have L := laid2 w 0 2 3 1 37
  have HL := Lib.hid L
  clear L
  go_enter Tryd.func51, Tryd.ntmps51
  go_wp2
  go_ret
  exact ⟨_, rfl, HL.out, fun k hk => by simp [Value.ownBlock] at hk; omega, (Below.refl _ w).alloc (Nat.le_refl _) _⟩
theorem exB_any (w : World) : Calls Tryd.prog 52 #[] w (GivesC cB w) := by
  have L := laid2 w 3 3 4 4 37
  have HL := Lib.hid L
  clear L
  go_enter Tryd.func52, Tryd.ntmps52
  go_wp2
  go_ret
  exact ⟨_, rfl, HL.out, fun k hk => by simp [Value.ownBlock] at hk; omega, (Below.refl _ w).alloc (Nat.le_refl _) _⟩
theorem is_any (v wv : Value) (c d : List Tm) (n : Int) (w : World) (hc : TermsV w v c) (hd : TermsV w wv d) : Calls Tryd.prog 50 #[v, .int .i64 n, wv] w fun e w' => e = .returned (.bool (decide (c = d) && (n == 0))) ∧ ∃ m, w' = w.drewN m := by
  have SA := Lib.hid (same_any v wv c d w hc hd)
  cases hq : decide (c = d) with
  | true =>
    rw [hq] at SA
    clear hc hd hq
    go_enter Tryd.func50, Tryd.ntmps50
    go_wp2_with (go_at_call 25; refine Calls.mono SA.out ?_; rintro e w' ⟨rfl, m, rfl⟩)
    go_ret
    exact ⟨rfl, m, rfl⟩
  | false =>
    rw [hq] at SA
    clear hc hd hq
    go_enter Tryd.func50, Tryd.ntmps50
    go_wp2_with (go_at_call 25; refine Calls.mono SA.out ?_; rintro e w' ⟨rfl, m, rfl⟩)
    go_ret
    exact ⟨rfl, m, rfl⟩
theorem plusL_any (p k : Int) (va vb : Value) (a b : List Tm) (w : World) (tb : Tab w) (ha : TermsV w va a) (hb : TermsV w vb b) :
    Calls Tryd.prog 47 #[.int .i64 p, va, .int .i64 k, vb] w (GivesC (if chk2 p a b = 0 then pls p a k b else []) w) := by
  have CA := Lib.hid (add_col p k va vb a b w tb ha hb)
  by_cases h : chk2 p a b = 0
  · rw [if_pos h, h] at CA
    rw [if_pos h]
    clear h tb ha hb
    go_enter Tryd.func47, Tryd.ntmps47
    go_wp2_with fail
    refine Calls.mono CA.out ?_
    rintro e w1 ⟨v, rfl, hT, hk, hb⟩
    have R := Lib.hid (show GivesC (pls p a k b) w (.returned v) w1 from ⟨v, rfl, hT, hk, hb⟩)
    clear hT hk hb
    go_wp2
    go_ret
    exact R.out
  · rw [if_neg h] at CA
    rw [if_neg h]
    obtain ⟨x, hx⟩ : ∃ x, x = chk2 p a b := ⟨_, rfl⟩
    rw [← hx] at CA h
    have e0 : (x == 0) = false := beq_eq_false_iff_ne.2 h
    clear h hx tb ha hb
    go_enter Tryd.func47, Tryd.ntmps47
    go_wp2_with fail
    refine Calls.mono CA.out ?_
    rintro e w1 ⟨v, rfl, hT, hk, hb⟩
    have HB := Lib.hid hb
    clear hT hk hb
    go_wp2
    go_ret
    exact ⟨_, rfl, TermsV.nil _, fun k hk => by simp [Value.ownBlock] at hk, HB.out⟩
end Go.Proofs.YtdhcffboaiajeaaDoor
