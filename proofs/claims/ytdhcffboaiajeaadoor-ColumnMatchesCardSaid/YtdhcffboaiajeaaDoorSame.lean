/-
  What the reference's Same, SameList, Low and Coef return.
-/
import Derived.Test.YtdhcffboaiajeaaDoorFitList
import Derived.Deep.QuietTactic
import Derived.BigQuiet
import Derived.Laws.StructEq
namespace Go.Proofs.YtdhcffboaiajeaaDoor
open Go.RowKit M

/-- Two terms compared. -/
theorem neq_term (x1 x2 y1 y2 : Int) (w : World) : (binOp .neq 37 (.agg #[.int .i64 x1, .int .i64 x2]) (.agg #[.int .i64 y1, .int .i64 y2])).run Tryd.prog w = .ok (.bool (!(x1 == y1 && x2 == y2))) w := by
  rw [run_neq_struct, run_equalIn_agg w _ _ _ _ (by kernel_rfl) (by kernel_rfl)]
  unfold Program.fieldsOf
  rw [Tryd.underlying37]
  by_cases h1 : x1 = y1 <;> by_cases h2 : x2 = y2 <;> simp [Op.eqFields, part, run_equalIn_int _ _ _ IntKind.i64 IntKind.i64 _ _ Tryd.underlying3, h1, h2]
theorem guard_term : Tryd.prog.eqGuardType Tryd.prog.depth 37 = false := by kernel_rfl
theorem take_eq {a b : List Tm} {k : Nat} (h : a.take k = b.take k) (ha : k < a.length) (hb : k < b.length) (e : a[k] = b[k]) : a.take (k + 1) = b.take (k + 1) := by
  rw [show a.take (k + 1) = a.take k ++ [a[k]] by rw [List.take_append_getElem], show b.take (k + 1) = b.take k ++ [b[k]] by rw [List.take_append_getElem], h, e]
set_option maxHeartbeats 1000000 in
set_option maxRecDepth 100000 in
theorem same_any (va vb : Value) (a b : List Tm) (w : World) (ha : TermsV w va a) (hb : TermsV w vb b) : Calls Tryd.prog 25 #[va, vb] w fun e w' => e = .returned (.bool (decide (a = b))) ∧ ∃ m, w' = w.drewN m := by
  obtain ⟨pa, na, rfl, a1, a2, a3⟩ := ha
  obtain ⟨pb, nb, rfl, b1, b2, b3⟩ := hb
  unfold maxLen at a2 b2
  by_cases hl : a.length = b.length
  · rw [← hl] at b1 ⊢
    have HL := Lib.hid hl
    clear hl
    go_enter Tryd.func25, Tryd.ntmps25
    go_wp2
    go_loopw [5] (fun i wr => ∃ k : Nat, k ≤ a.length ∧ i = .int .i64 k ∧ a.take k = b.take k ∧ ∃ m, wr = w.drewN m) (fun i _ => a.length - (intOf i).toNat)
    case atStart => exact ⟨0, Nat.zero_le _, rfl, rfl, 0, rfl⟩
    case round =>
      obtain ⟨k, hk, rfl, hE, m, rfl⟩ := hrel
      by_cases hlt : k < a.length
      · have hltb : k < b.length := HL.out ▸ hlt
        obtain ⟨ga, oa, rfl, hga, hca⟩ := a3 (by omega)
        obtain ⟨gb, ob, rfl, hgb, hcb⟩ := b3 (by omega)
        obtain ⟨c0, c1⟩ := hca k hlt
        obtain ⟨d0, d1⟩ := hcb k hltb
        have hkb : (k : Int) < a.length := by omega
        have HE := Lib.hid hE
        have HT := Lib.hid (take_eq hE hlt hltb)
        obtain ⟨x, hx⟩ : ∃ x, x = a[k] := ⟨_, rfl⟩
        obtain ⟨y, hy⟩ : ∃ y, y = b[k] := ⟨_, rfl⟩
        rw [← hx] at c0 c1 HT
        rw [← hy] at d0 d1 HT
        obtain ⟨x1, x2⟩ := x
        obtain ⟨y1, y2⟩ := y
        clear hE hca hcb a3 b3
        have NT := neq_term x1 x2 y1 y2
        have GT := guard_term
        by_cases he : x1 = y1 ∧ x2 = y2
        · have e0 : (!(x1 == y1 && x2 == y2)) = false := by simp [he.1, he.2]
          have HT2 := Lib.hid (HT.out (by rw [he.1, he.2]))
          rw [e0] at NT
          clear hx hy HT HE
          go_wp2
          go_quiet (fail)
          go_wp2
          exact ⟨⟨k + 1, by omega, by go_num, HT2.out, _, rfl⟩, by simp [intOf]; omega⟩
        · have e0 : (!(x1 == y1 && x2 == y2)) = true := by
            by_cases h1 : x1 = y1
            · have h2 : x2 ≠ y2 := fun h2 => he ⟨h1, h2⟩
              simp [h1, h2]
            · simp [h1]
          have HN := Lib.hid (show decide (a = b) = false from decide_eq_false (fun e => by subst e; rw [← hx] at hy; injection hy with h1 h2; exact he ⟨h1.symm, h2.symm⟩))
          rw [e0] at NT
          clear hx hy HT HE
          go_wp2
          go_quiet (fail)
          go_wp2
          go_ret
          exact ⟨ret_bool HN.out.symm, _, World.drewN_drewN _ _ _⟩
      · have HY := Lib.hid (show decide (a = b) = true from decide_eq_true (by
          have hl := HL.out
          have h1 : a.take k = a := List.take_of_length_le (by omega)
          have h2 : b.take k = b := List.take_of_length_le (by omega)
          rw [h1, h2] at hE
          exact hE))
        clear hE a3 b3
        go_wp2
        go_ret
        exact ⟨ret_bool HY.out.symm, _, rfl⟩
  · have hl2 : ((a.length : Int) == b.length) = false := beq_eq_false_iff_ne.2 (by omega)
    have HN := Lib.hid (show decide (a = b) = false from decide_eq_false (fun e => hl (by rw [e])))
    clear a3 b3
    go_enter Tryd.func25, Tryd.ntmps25
    go_wp2
    go_ret
    exact ⟨ret_bool HN.out.symm, 0, rfl⟩
theorem rlow_any (v : Value) (c : List Tm) (w : World) (h : TermsV w v c) : Calls Tryd.prog 16 #[v] w fun e w' => e = .returned (.tuple #[.int .i64 (low c), .bool (decide (c ≠ []))]) ∧ w = w' := by
  by_cases h0 : c = []
  · subst h0
    obtain ⟨a, n, rfl, -, -, -⟩ := h
    go_enter Tryd.func16, Tryd.ntmps16
    go_wp2
    go_ret2
    exact ⟨rfl, rfl⟩
  · rw [decide_eq_true h0]
    obtain ⟨a, n, rfl, h1, h2, h3⟩ := h
    have hp := List.length_pos_iff.2 h0
    obtain ⟨g, o, rfl, hg, hc⟩ := h3 hp
    obtain ⟨m, hm⟩ : ∃ m, c.length = m + 1 := ⟨c.length - 1, by omega⟩
    have c0 := (hc m (by omega)).1
    rw [← low_last hm] at c0
    unfold maxLen at h2
    rw [hm] at h1 ⊢
    clear h3 hc hm hp h0
    go_enter Tryd.func16, Tryd.ntmps16
    go_wp2
    go_ret2
    exact ⟨rfl, rfl⟩
theorem rcoef_any (v : Value) (c : List Tm) (row : Int) (w : World) (h : TermsV w v c) : Calls Tryd.prog 20 #[v, .int .i64 row] w fun e w' => e = .returned (.int .i64 (co c row)) ∧ w = w' := by
  obtain ⟨a, n, rfl, h1, h2, h3⟩ := h
  unfold maxLen at h2
  go_enter Tryd.func20, Tryd.ntmps20
  go_wp2
  go_loop [5] (fun i => ∃ k : Nat, k ≤ c.length ∧ i = .int .i64 k ∧ co c row = co (c.drop k) row) (fun i => c.length - (intOf i).toNat)
  case atStart => exact ⟨0, Nat.zero_le _, rfl, rfl⟩
  case round =>
    obtain ⟨k, hk, rfl, hco⟩ := hrel
    by_cases hlt : k < c.length
    · obtain ⟨g, o, rfl, hg, hc⟩ := h3 (by omega)
      obtain ⟨c0, c1⟩ := hc k hlt
      rw [drop_cons hlt] at hco
      obtain ⟨t, ht⟩ : ∃ t, t = c[k] := ⟨_, rfl⟩
      rw [← ht] at c0 c1 hco
      have HCO := Lib.hid hco
      clear hc ht h3 hco
      by_cases hx : t.1 = row
      · have e0 : (t.1 == row) = true := beq_iff_eq.2 hx
        have HE := Lib.hid (show co c row = t.2 from HCO.out.trans (if_pos hx))
        clear hx
        go_wp2
        go_ret
        exact ⟨ret_int HE.out.symm, rfl⟩
      · have e0 : (t.1 == row) = false := beq_eq_false_iff_ne.2 hx
        have HE := Lib.hid (show co c row = co (c.drop (k + 1)) row from HCO.out.trans (if_neg hx))
        clear hx
        go_wp2
        go_round
        case rel => exact ⟨k + 1, by omega, by go_num, HE.out⟩
        case measure => simp [intOf]; omega
    · have HE := Lib.hid (show co c row = 0 from by rw [hco, show k = c.length by omega, List.drop_length]; rfl)
      clear hco h3
      go_wp2
      go_ret
      exact ⟨ret_int HE.out.symm, rfl⟩
theorem take_eqL {a b : List (List Tm)} {k : Nat} (h : a.take k = b.take k) (ha : k < a.length) (hb : k < b.length) (e : a[k] = b[k]) : a.take (k + 1) = b.take (k + 1) := by
  rw [show a.take (k + 1) = a.take k ++ [a[k]] by rw [List.take_append_getElem], show b.take (k + 1) = b.take k ++ [b[k]] by rw [List.take_append_getElem], h, e]
set_option maxHeartbeats 1000000 in
set_option maxRecDepth 100000 in
theorem sameList_any (va vb : Value) (a b : List (List Tm)) (w : World) (ha : ListV w va a) (hb : ListV w vb b) : Calls Tryd.prog 41 #[va, vb] w fun e w' => e = .returned (.bool (decide (a = b))) ∧ ∃ m, w' = w.drewN m := by
  obtain ⟨pa, na, rfl, a1, a2, a3⟩ := ha
  obtain ⟨pb, nb, rfl, b1, b2, b3⟩ := hb
  unfold maxLen at a2 b2
  by_cases hl : a.length = b.length
  · rw [← hl] at b1 ⊢
    have HL := Lib.hid hl
    clear hl
    go_enter Tryd.func41, Tryd.ntmps41
    go_wp2
    go_loopw [5] (fun i wr => ∃ k : Nat, k ≤ a.length ∧ i = .int .i64 k ∧ a.take k = b.take k ∧ ∃ m, wr = w.drewN m) (fun i _ => a.length - (intOf i).toNat)
    case atStart => exact ⟨0, Nat.zero_le _, rfl, rfl, 0, rfl⟩
    case round =>
      obtain ⟨k, hk, rfl, hE, m, hwr⟩ := hrel
      by_cases hlt : k < a.length
      · have hltb : k < b.length := HL.out ▸ hlt
        obtain ⟨ga, oa, rfl, hga, hca⟩ := a3 (by omega)
        obtain ⟨gb, ob, rfl, hgb, hcb⟩ := b3 (by omega)
        obtain ⟨ta, c0, ca⟩ := hca k hlt
        obtain ⟨tb, d0, cb⟩ := hcb k hltb
        have hkb : (k : Int) < a.length := by omega
        have SA := fun d => same_any ta tb _ _ (wr.drewN d) (show TermsV (wr.drewN d) ta a[k] from by rw [hwr]; exact ca) (show TermsV (wr.drewN d) tb b[k] from by rw [hwr]; exact cb)
        replace c0 : wr.cell? ⟨ga, oa + k, none⟩ = some ta := by rw [hwr]; exact c0
        replace d0 : wr.cell? ⟨gb, ob + k, none⟩ = some tb := by rw [hwr]; exact d0
        have HW := Lib.hid hwr
        obtain ⟨bb, hbb⟩ : ∃ bb, bb = decide (a[k] = b[k]) := ⟨_, rfl⟩
        rw [← hbb] at SA
        replace SA := Lib.hid SA
        have HT := take_eqL hE hlt hltb
        cases hq : bb with
        | true =>
          rw [hq] at hbb SA
          have HT2 := Lib.hid (HT (of_decide_eq_true hbb.symm))
          clear hE hca hcb a3 b3 ca cb HT hbb hq hwr
          go_wp2
          go_quiet ((go_at_call 25; exact Calls.quiet_of (SA.out _)))
          go_wp2
          exact ⟨⟨k + 1, by omega, by go_num, HT2.out, _, by rw [HW.out]; exact World.drewN_drewN _ _ _⟩, by simp [intOf]; omega⟩
        | false =>
          rw [hq] at hbb SA
          have HN := Lib.hid (show decide (a = b) = false from decide_eq_false (fun e => of_decide_eq_false hbb.symm (by simp [e])))
          clear hE hca hcb a3 b3 ca cb HT hbb hq hwr
          go_wp2
          go_quiet ((go_at_call 25; exact Calls.quiet_of (SA.out _)))
          go_wp2
          go_ret
          exact ⟨ret_bool HN.out.symm, _, by rw [HW.out]; exact World.drewN_drewN _ _ _⟩
      · have HY := Lib.hid (show decide (a = b) = true from decide_eq_true (by
          have hl := HL.out
          have h1 : a.take k = a := List.take_of_length_le (by omega)
          have h2 : b.take k = b := List.take_of_length_le (by omega)
          rw [h1, h2] at hE
          exact hE))
        have HW := Lib.hid hwr
        clear hE a3 b3 hwr
        go_wp2
        go_ret
        exact ⟨ret_bool HY.out.symm, _, HW.out⟩
  · have hl2 : ((a.length : Int) == b.length) = false := beq_eq_false_iff_ne.2 (by omega)
    have HN := Lib.hid (show decide (a = b) = false from decide_eq_false (fun e => hl (by rw [e])))
    clear a3 b3
    go_enter Tryd.func41, Tryd.ntmps41
    go_wp2
    go_ret
    exact ⟨ret_bool HN.out.symm, 0, rfl⟩
end Go.Proofs.YtdhcffboaiajeaaDoor
