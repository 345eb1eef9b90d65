/-
  What checkBoth and checkList return.
-/
import Derived.Test.YtdhcffboaiajeaaDoorLeaf
namespace Go.Proofs.YtdhcffboaiajeaaDoor
open Go.RowKit M

def chk2 (p : Int) (a b : List Tm) : Int := if chk p a = 0 then chk p b else chk p a
/-- The first error of the columns of a list. -/
def chkA (p : Int) : List (List Tm) → Int
  | [] => 0
  | c :: L => if chk p c = 0 then chkA p L else chk p c
def chkLs (p : Int) (L : List (List Tm)) : Int := if 1024 < L.length then 3 else if pr p = true then chkA p L else 8
theorem chk2_zero {p : Int} {a b : List Tm} : chk2 p a b = 0 ↔ pr p = true ∧ Col p a ∧ Col p b := by
  unfold chk2
  by_cases h : chk p a = 0
  · rw [if_pos h, chk_zero]
    have := chk_zero.1 h
    exact ⟨fun g => ⟨g.1, this.2, g.2⟩, fun g => ⟨g.1, g.2.2⟩⟩
  · rw [if_neg h]
    exact ⟨fun g => absurd g h, fun g => absurd (chk_zero.2 ⟨g.1, g.2.1⟩) h⟩
theorem chkA_zero {p : Int} (hp : pr p = true) : ∀ {L : List (List Tm)}, chkA p L = 0 ↔ Cols p L
  | [] => ⟨fun _ _ h => absurd h (by simp), fun _ => rfl⟩
  | c :: L => by
    unfold chkA
    by_cases h : chk p c = 0
    · rw [if_pos h, chkA_zero hp]
      have := (chk_zero.1 h).2
      exact ⟨fun g d hd => (List.mem_cons.1 hd).elim (fun e => by rw [e]; exact this) (g d), fun g d hd => g d (by simp [hd])⟩
    · rw [if_neg h]
      exact ⟨fun g => absurd g h, fun g => absurd (chk_zero.2 ⟨hp, g c (by simp)⟩) h⟩
theorem chkLs_zero {p : Int} {L : List (List Tm)} : chkLs p L = 0 ↔ L.length ≤ 1024 ∧ pr p = true ∧ Cols p L := by
  unfold chkLs
  by_cases h : 1024 < L.length
  · rw [if_pos h]; exact ⟨fun g => by omega, fun g => by omega⟩
  · rw [if_neg h]
    by_cases hp : pr p = true
    · rw [if_pos hp, chkA_zero hp]; exact ⟨fun g => ⟨by omega, hp, g⟩, fun g => g.2.2⟩
    · rw [if_neg hp]; exact ⟨fun g => by omega, fun g => absurd g.2.1 hp⟩
theorem chk_le {p : Int} (c : List Tm) : 0 ≤ chk p c ∧ chk p c ≤ 8 := by
  unfold chk
  split
  · have : ∀ (c : List Tm) (l : Int), 0 ≤ chkL p l c ∧ chkL p l c ≤ 8 := by
      intro c
      induction c with
      | nil => intro l; exact ⟨Int.le_refl _, by show (0 : Int) ≤ 8; omega⟩
      | cons t c ih =>
        intro l
        unfold chkL
        split
        · omega
        · split
          · omega
          · exact ih _
    exact this c _
  · omega
theorem checkBoth_any (p : Int) (va vb : Value) (a b : List Tm) (w : World) (tb : Tab w) (ha : TermsV w va a) (hb : TermsV w vb b) : Calls Tryd.prog 55 #[.int .i64 p, va, vb] w fun e w' => e = .returned (.int .i64 (chk2 p a b)) ∧ Below w.heap.size w w' := by
  obtain ⟨x, hx⟩ : ∃ x, x = chk p a := ⟨_, rfl⟩
  obtain ⟨y, hy⟩ : ∃ y, y = chk p b := ⟨_, rfl⟩
  have CA := Lib.hid (check_any p va a w tb ha)
  have CB := Lib.hid (fun W (h : Below w.heap.size w W) => check_any p vb b W (tb.on h) (hb.below h))
  unfold chk2
  rw [← hx] at CA ⊢
  rw [← hy] at CB ⊢
  clear hx hy ha hb tb
  by_cases h0 : x = 0
  · have e0 : (x == 0) = true := beq_iff_eq.2 h0
    rw [if_pos h0]
    clear h0
    go_enter Tryd.func55, Tryd.ntmps55
    go_wp2_with fail
    refine Calls.mono CA.out ?_
    rintro e w1 ⟨rfl, hb1⟩
    have B1 := Lib.hid hb1
    clear hb1
    go_wp2_with fail
    refine Calls.mono (CB.out w1 B1.out) ?_
    rintro e w2 ⟨rfl, hb2⟩
    have B2 := Lib.hid (B1.out.trans (hb2.mono B1.out.size))
    clear hb2
    go_wp2
    go_ret
    exact ⟨rfl, B2.out⟩
  · have e0 : (x == 0) = false := beq_eq_false_iff_ne.2 h0
    rw [if_neg h0]
    clear h0
    go_enter Tryd.func55, Tryd.ntmps55
    go_wp2_with fail
    refine Calls.mono CA.out ?_
    rintro e w1 ⟨rfl, hb1⟩
    have B1 := Lib.hid hb1
    clear hb1
    go_wp2
    go_ret
    exact ⟨rfl, B1.out⟩
theorem chkA_drop {p : Int} {L : List (List Tm)} {k : Nat} (h : k < L.length) : chkA p (L.drop k) = if chk p L[k] = 0 then chkA p (L.drop (k + 1)) else chk p L[k] := by
  rw [List.drop_eq_getElem_cons h]
  rfl
theorem checkList_long (p : Int) (a : Option Addr) (m n : Nat) (w : World) (h : 1024 < m) : Calls Tryd.prog 63 #[.int .i64 p, .slice a m n] w fun e w' => e = .returned (.int .i64 3) ∧ w = w' := by
  have h' : (1024 : Int) < m := by omega
  go_enter Tryd.func63, Tryd.ntmps63
  go_wp2
  go_ret
  exact ⟨rfl, rfl⟩
theorem checkList_noprime (p : Int) (a : Option Addr) (m n : Nat) (w : World) (tb : Tab w) (h : m ≤ 1024) (hp : pr p = false) : Calls Tryd.prog 63 #[.int .i64 p, .slice a m n] w fun e w' => e = .returned (.int .i64 8) ∧ w = w' := by
  have h' : ¬ (1024 : Int) < m := by omega
  have T := Lib.hid tb
  clear tb
  go_enter Tryd.func63, Tryd.ntmps63
  go_wp2_with (go_at_call 53; refine (prime_any p _ T.out).mono ?_; rw [hp]; rintro e w' ⟨rfl, rfl⟩)
  go_ret
  exact ⟨rfl, rfl⟩
set_option maxHeartbeats 1000000 in
theorem checkList_ok (p : Int) (v : Value) (L : List (List Tm)) (w : World) (tb : Tab w) (hL : L.length ≤ 1024) (hp : pr p = true) (h : ListV w v L) : Calls Tryd.prog 63 #[.int .i64 p, v] w fun e w' => e = .returned (.int .i64 (chkA p L)) ∧ Below w.heap.size w w' := by
  have T := Lib.hid tb
  obtain ⟨a, n, rfl, h1, h2, h3⟩ := h
  have hL' : ¬ (1024 : Int) < L.length := by omega
  unfold maxLen at h2
  clear tb
  go_enter Tryd.func63, Tryd.ntmps63
  go_wp2_with (go_at_call 53; refine (prime_any p _ T.out).mono ?_; rw [hp]; rintro e w' ⟨rfl, rfl⟩)
  go_loopw [18] (fun i wr => ∃ (k : Nat), k ≤ L.length ∧ i = .int .i64 k ∧ chkA p L = chkA p (L.drop k) ∧ Below w.heap.size w wr) (fun i _ => L.length - (intOf i).toNat)
  case atStart => exact ⟨0, Nat.zero_le _, rfl, rfl, Below.refl _ _⟩
  case round =>
    obtain ⟨k, hk, rfl, hco, hB⟩ := hrel
    by_cases hlt : k < L.length
    · obtain ⟨g, o, rfl, hg, hc⟩ := h3 (by omega)
      obtain ⟨s, c0, hT⟩ := hc k hlt
      rw [chkA_drop hlt] at hco
      replace c0 := (hB.cell (p := ⟨g, o + k, none⟩) hg).trans c0
      have C1 := Lib.hid (check_any p s _ wr (T.out.on hB) (hT.below hB))
      obtain ⟨x, hx⟩ : ∃ x, x = chk p L[k] := ⟨_, rfl⟩
      rw [← hx] at hco C1
      have HCO := Lib.hid hco
      have HB := Lib.hid hB
      clear hc h3 hco hB hT hx
      by_cases h0 : x = 0
      · have e0 : (x == 0) = true := beq_iff_eq.2 h0
        have HC2 := Lib.hid (show chkA p L = chkA p (L.drop (k + 1)) from by rw [HCO.out, if_pos h0])
        clear h0 HCO
        go_wp2_with fail
        refine Calls.mono C1.out ?_
        rintro e w1 ⟨rfl, hb1⟩
        have B1 := Lib.hid (HB.out.trans (hb1.mono HB.out.size))
        clear hb1
        go_wp2
        exact ⟨⟨k + 1, by omega, by go_num, HC2.out, B1.out⟩, by simp [intOf]; omega⟩
      · have e0 : (x == 0) = false := beq_eq_false_iff_ne.2 h0
        have HC2 := Lib.hid (show chkA p L = x from by rw [HCO.out, if_neg h0])
        clear h0 HCO
        go_wp2_with fail
        refine Calls.mono C1.out ?_
        rintro e w1 ⟨rfl, hb1⟩
        have B1 := Lib.hid (HB.out.trans (hb1.mono HB.out.size))
        clear hb1
        go_wp2
        go_ret
        exact ⟨ret_int HC2.out.symm, B1.out⟩
    · have hkl : k = L.length := by omega
      have HCO := Lib.hid hco
      have HB := Lib.hid hB
      clear h3 hco hB
      go_wp2
      go_ret
      refine ⟨ret_int ?_, HB.out⟩
      rw [HCO.out, hkl, List.drop_length]
      rfl
theorem ListV.slice {w : World} {v : Value} {L : List (List Tm)} (h : ListV w v L) : ∃ a n, v = .slice a L.length n := let ⟨a, n, e, _⟩ := h; ⟨a, n, e⟩
theorem checkList_any (p : Int) (v : Value) (L : List (List Tm)) (w : World) (tb : Tab w) (h : ListV w v L) : Calls Tryd.prog 63 #[.int .i64 p, v] w fun e w' => e = .returned (.int .i64 (chkLs p L)) ∧ Below w.heap.size w w' := by
  unfold chkLs
  by_cases hl : 1024 < L.length
  · rw [if_pos hl]
    obtain ⟨a, n, rfl⟩ := h.slice
    refine (checkList_long p a _ n w hl).mono ?_
    rintro e w' ⟨h1, rfl⟩
    exact ⟨h1, Below.refl _ _⟩
  · rw [if_neg hl]
    cases hp : pr p with
    | true => rw [if_pos rfl]; exact checkList_ok p v L w tb (by omega) hp h
    | false =>
      rw [if_neg (by simp)]
      obtain ⟨a, n, rfl⟩ := h.slice
      refine (checkList_noprime p a _ n w tb (by omega) hp).mono ?_
      rintro e w' ⟨h1, rfl⟩
      exact ⟨h1, Below.refl _ _⟩
end Go.Proofs.YtdhcffboaiajeaaDoor
