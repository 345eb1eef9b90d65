/-
  What the reference's CheckAll and Size return.
-/
import Derived.Test.YtdhcffboaiajeaaDoorRCheck
import Derived.Test.YtdhcffboaiajeaaDoorApi2
namespace Go.Proofs.YtdhcffboaiajeaaDoor
open Go.RowKit M

set_option maxHeartbeats 1000000 in
theorem rcheckAll_any (p : Int) (v : Value) (L : List (List Tm)) (w : World) (h : ListV w v L) : Calls Tryd.prog 57 #[.int .i64 p, v] w fun e w' => e = .returned (.int .i64 (chkA p L)) ∧ w = w' := by
  obtain ⟨a, n, rfl, h1, h2, h3⟩ := h
  unfold maxLen at h2
  go_enter Tryd.func57, Tryd.ntmps57
  go_wp2
  go_loop [5] (fun i => ∃ (k : Nat), k ≤ L.length ∧ i = .int .i64 k ∧ chkA p L = chkA p (L.drop k)) (fun i => L.length - (intOf i).toNat)
  case atStart => exact ⟨0, Nat.zero_le _, rfl, rfl⟩
  case round =>
    obtain ⟨k, hk, rfl, hco⟩ := hrel
    by_cases hlt : k < L.length
    · obtain ⟨g, o, rfl, hg, hc⟩ := h3 (by omega)
      obtain ⟨s, c0, hT⟩ := hc k hlt
      rw [chkA_drop hlt] at hco
      have C1 := Lib.hid (rcheck_any p s _ w hT)
      obtain ⟨x, hx⟩ : ∃ x, x = chk p L[k] := ⟨_, rfl⟩
      rw [← hx] at hco C1
      have HCO := Lib.hid hco
      have hkl : (k : Int) < L.length := by omega
      clear hc h3 hco hT hx
      by_cases h0 : x = 0
      · have e0 : (x == 0) = true := beq_iff_eq.2 h0
        have HC2 := Lib.hid (show chkA p L = chkA p (L.drop (k + 1)) from by rw [HCO.out, if_pos h0])
        subst h0
        clear HCO
        go_wp2_with (go_at_call 18; refine Calls.mono C1.out ?_; rintro e w' ⟨rfl, rfl⟩)
        go_round
        case rel => exact ⟨k + 1, by omega, by go_num, HC2.out⟩
        case measure => simp [intOf]; omega
      · have e0 : (x == 0) = false := beq_eq_false_iff_ne.2 h0
        have HC2 := Lib.hid (show chkA p L = x from by rw [HCO.out, if_neg h0])
        clear h0 HCO
        go_wp2_with (go_at_call 18; refine Calls.mono C1.out ?_; rintro e w' ⟨rfl, rfl⟩)
        go_ret
        exact ⟨ret_int HC2.out.symm, rfl⟩
    · have hkl : k = L.length := by omega
      have HR := Lib.hid (show chkA p L = 0 from by rw [hco, hkl, List.drop_length]; rfl)
      clear h3 hco
      go_wp2
      go_ret
      exact ⟨ret_int HR.out.symm, rfl⟩
/-- The rows that a column needs, and n at least. -/
def szC : Int → List Tm → Int
  | n, [] => n
  | n, t :: c => szC (max n (t.1 + 1)) c
def szL : Int → List (List Tm) → Int
  | n, [] => n
  | n, c :: L => szL (szC n c) L
theorem szC_props : ∀ (c : List Tm) (n : Int), n ≤ szC n c ∧ ∀ t, t ∈ c → t.1 < szC n c
  | [], n => ⟨Int.le_refl _, fun t h => absurd h (by simp)⟩
  | s :: c, n => by
    obtain ⟨h1, h2⟩ := szC_props c (max n (s.1 + 1))
    have h1' : max n (s.1 + 1) ≤ szC n (s :: c) := h1
    refine ⟨by omega, fun t ht => ?_⟩
    rcases List.mem_cons.1 ht with rfl | ht
    · omega
    · exact h2 t ht
theorem szC_le {p l : Int} : ∀ {c : List Tm} {n : Int}, Cl p l c → n ≤ 1024 → szC n c ≤ 1024
  | [], _, _, h => h
  | t :: c, n, ⟨_, a2, _, _, _, a6⟩, h => szC_le (n := max n (t.1 + 1)) a6 (by omega)
theorem szL_props : ∀ (L : List (List Tm)) (n : Int), n ≤ szL n L ∧ ∀ c, c ∈ L → ∀ t, t ∈ c → t.1 < szL n L
  | [], n => ⟨Int.le_refl _, fun t h => absurd h (by simp)⟩
  | c :: L, n => by
    obtain ⟨h1, h2⟩ := szL_props L (szC n c)
    obtain ⟨h3, h4⟩ := szC_props c n
    have h1' : szC n c ≤ szL n (c :: L) := h1
    refine ⟨by omega, fun d hd t ht => ?_⟩
    rcases List.mem_cons.1 hd with rfl | hd
    · have := h4 t ht; omega
    · exact h2 d hd t ht
theorem szL_le {p : Int} : ∀ {L : List (List Tm)} {n : Int}, Cols p L → n ≤ 1024 → szL n L ≤ 1024
  | [], _, _, h => h
  | c :: L, n, hL, h => szL_le (n := szC n c) (fun d hd => hL d (by simp [hd])) (szC_le (hL c (by simp)) h)
theorem szC_low {p : Int} : ∀ {c : List Tm} {l n : Int}, Cl p l c → c ≠ [] → n ≤ low c + 1 → szC n c = low c + 1
  | [], _, _, _, h, _ => absurd rfl h
  | [t], _, n, _, _, h => by
    show max n (t.1 + 1) = t.1 + 1
    have : n ≤ t.1 + 1 := h
    omega
  | t :: s :: c, l, n, ⟨_, _, _, _, _, a6⟩, _, h => by
    rw [low_cons] at h ⊢
    have h6 := a6
    obtain ⟨g1, g2, g3, g4, g5, g6⟩ := a6
    have := row_le_low h6 s (by simp)
    exact szC_low (n := max n (t.1 + 1)) h6 (by simp) (by omega)
set_option maxHeartbeats 1000000 in
set_option maxRecDepth 100000 in
theorem rsize_any (p : Int) (v : Value) (L : List (List Tm)) (w : World) (hL : Cols p L) (hlen : ∀ c, c ∈ L → c.length ≤ 1024) (h : ListV w v L) : Calls Tryd.prog 65 #[v] w fun e w' => e = .returned (.int .i64 (szL 0 L)) ∧ w = w' := by
  obtain ⟨a, n, rfl, h1, h2, h3⟩ := h
  unfold maxLen at h2
  have HL := Lib.hid hL
  have HLEN := Lib.hid hlen
  clear hL hlen
  go_enter Tryd.func65, Tryd.ntmps65
  go_wp2
  go_loop [3, 4] (fun r i => ∃ (k : Nat) (m : Int), k ≤ L.length ∧ i = .int .i64 k ∧ r = .int .i64 m ∧ 0 ≤ m ∧ m ≤ 1024 ∧ szL 0 L = szL m (L.drop k)) (fun _ i => L.length - (intOf i).toNat)
  case atStart => exact ⟨0, 0, Nat.zero_le _, rfl, rfl, by omega, by omega, rfl⟩
  case round =>
    obtain ⟨k, m, hk, rfl, rfl, hm0, hm1, hco⟩ := hrel
    by_cases hlt : k < L.length
    · obtain ⟨g, o, rfl, hg, hc⟩ := h3 (by omega)
      obtain ⟨s, c0, hT⟩ := hc k hlt
      rw [List.drop_eq_getElem_cons hlt] at hco
      have hmem := List.getElem_mem hlt
      have hcol := HL.out _ hmem
      have hcl := HLEN.out _ hmem
      obtain ⟨c, hcc⟩ : ∃ c, c = L[k] := ⟨_, rfl⟩
      rw [← hcc] at hco hT hcol hcl
      have hco' : szL 0 L = szL (szC m c) (L.drop (k + 1)) := hco
      obtain ⟨b, bn, rfl, b1, b2, b3⟩ := hT
      have HCO := Lib.hid hco'
      have HCOL := Lib.hid hcol
      have hsz := szC_le hcol hm1
      have hsz0 : 0 ≤ szC m c := by have := (szC_props c m).1; omega
      have hkl : (k : Int) < L.length := by omega
      clear hc h3 hco hco' hcc hmem hcol
      go_wp2
      go_loop [3, 5] (fun r j => ∃ (i : Nat) (m2 : Int), i ≤ c.length ∧ j = .int .i64 i ∧ r = .int .i64 m2 ∧ 0 ≤ m2 ∧ m2 ≤ 1024 ∧ szC m c = szC m2 (c.drop i)) (fun _ j => c.length - (intOf j).toNat)
      case atStart => exact ⟨0, m, Nat.zero_le _, rfl, rfl, by omega, by omega, rfl⟩
      case round =>
        obtain ⟨i, m2, hi, rfl, rfl, hn0, hn1, hco⟩ := hrel
        by_cases hil : i < c.length
        · obtain ⟨g2, o2, rfl, hg2, hc2⟩ := b3 (by omega)
          obtain ⟨d0, d1⟩ := hc2 i hil
          rw [drop_cons hil] at hco
          obtain ⟨r1, r2, -, -⟩ := mem_row HCOL.out (List.getElem_mem hil)
          obtain ⟨t, ht⟩ : ∃ t, t = c[i] := ⟨_, rfl⟩
          rw [← ht] at d0 d1 hco r1 r2
          have hmx : max m2 (t.1 + 1) = if m2 < t.1 + 1 then t.1 + 1 else m2 := by split <;> omega
          have HCO2 := Lib.hid (show szC m c = szC (if m2 < t.1 + 1 then t.1 + 1 else m2) (c.drop (i + 1)) from by rw [← hmx]; exact hco)
          have hil2 : (i : Int) < c.length := by omega
          clear hc2 b3 ht hco d1 hmx
          go_wp2
          go_round
          case rel => exact ⟨i + 1, _, by omega, by go_num, rfl, by split <;> omega, by split <;> omega, HCO2.out⟩
          case measure => simp [intOf]; omega
        · have hix : i = c.length := by omega
          have e : szC m c = m2 := by rw [hco, hix, List.drop_length]; rfl
          rw [e] at HCO hsz hsz0
          clear b3 hco
          go_wp2
          go_round
          case rel => exact ⟨k + 1, m2, by omega, by go_num, rfl, by omega, by omega, HCO.out⟩
          case measure => simp [intOf]; omega
    · have hkl : k = L.length := by omega
      have HR := Lib.hid (show szL 0 L = m from by rw [hco, hkl, List.drop_length]; rfl)
      clear h3 hco
      go_wp2
      go_ret
      exact ⟨ret_int HR.out.symm, rfl⟩
end Go.Proofs.YtdhcffboaiajeaaDoor
