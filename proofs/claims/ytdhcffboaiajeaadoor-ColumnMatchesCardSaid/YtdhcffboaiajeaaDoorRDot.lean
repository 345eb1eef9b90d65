/-
  What the reference's Dot and the statements' long return.
-/
import Derived.Test.YtdhcffboaiajeaaDoorRAdd
import Derived.Deep.QuietTactic
import Derived.BigQuiet
namespace Go.Proofs.YtdhcffboaiajeaaDoor
open Go.RowKit M

theorem dsum_cut {b : List Tm} : ∀ {a : List Tm} {k : Nat} (h : k < a.length), dsum (a.drop k) b = a[k].2 * co b a[k].1 + dsum (a.drop (k + 1)) b := by
  intro a k h
  rw [drop_cons h]
  rfl
theorem tmod_md {p x : Int} (hx : 0 ≤ x) : x.tmod p = md p x := by
  rw [md_of, Int.tmod_eq_emod_of_nonneg hx]
theorem quiet_same {P : Program} {f : FuncId} {args : Array Value} {w : World} {n : Nat} {v : Value}
    (h : Calls P f args (w.drewN n) fun e w' => e = .returned v ∧ w.drewN n = w') : Calls P f args (w.drewN n) fun e w'' => e = .returned v ∧ ∃ m, w'' = w.drewN m :=
  Calls.quiet_of_same (h.mono fun _ _ ⟨he, hw⟩ => ⟨he, hw.symm⟩)
set_option maxHeartbeats 1000000 in
set_option maxRecDepth 100000 in
theorem rdot_any (p : Int) (va vb : Value) (a b : List Tm) (w : World) (ha : TermsV w va a) (hb : TermsV w vb b) :
    Calls Tryd.prog 27 #[.int .i64 p, va, vb] w (fun e w' => e = .returned (.tuple #[.int .i64 (if chk2 p a b = 0 then md p (dsum a b) else 0), .int .i64 (chk2 p a b)]) ∧ Below w.heap.size w w') := by
  obtain ⟨fa, na, rfl⟩ := tform ha
  obtain ⟨fb, nb, rfl⟩ := tform hb
  obtain ⟨W1, hW1⟩ : ∃ W1, W1 = w.alloc (.cells #[.slice fa a.length na, .slice fb b.length nb] 22) := ⟨_, rfl⟩
  have B1 : Below w.heap.size w W1 := by rw [hW1]; exact (Below.refl _ w).alloc (Nat.le_refl _) _
  have CA := Lib.hid (rcheckAll_any p (.slice (some ⟨w.heap.size, 0, none⟩) 2 2) [a, b] W1 (by rw [hW1]; exact laidL2 w (.slice fa a.length na) (.slice fb b.length nb) a b _ ha hb))
  rw [chkA_two] at CA
  obtain ⟨x, hx⟩ : ∃ x, x = chk2 p a b := ⟨_, rfl⟩
  rw [← hx] at CA ⊢
  have HB := Lib.hid (hb.below B1)
  have HB1 := Lib.hid B1
  by_cases h0 : x = 0
  · have e0 : (x == 0) = true := beq_iff_eq.2 h0
    rw [if_pos h0]
    obtain ⟨hp, ca, cb⟩ := chk2_zero.1 (hx.symm.trans h0)
    have hpb := pr_bd hp
    have hp0 : ¬ p = 0 := by omega
    have CB := Lib.hid (co_bd (by omega) cb)
    have CC := Lib.hid ca
    obtain ⟨pa, na', hpa, a1, a2, a3⟩ := ha.below B1
    injection hpa with e1 e2 e3
    subst e1 e3
    clear e2
    unfold maxLen at a2
    subst h0
    clear hx ca cb ha hb B1
    go_enter Tryd.func27, Tryd.ntmps27
    go_wp2_with fail
    rw [← hW1]
    clear hW1
    refine Calls.mono CA.out ?_
    rintro e w' ⟨rfl, rfl⟩
    go_wp2
    go_loopw [9, 10] (fun so i wr => ∃ (k : Nat) (s : Int), k ≤ a.length ∧ i = .int .i64 k ∧ so = .int .i64 s ∧ 0 ≤ s ∧ s < p ∧ md p (dsum a b) = md p (s + dsum (a.drop k) b) ∧ ∃ m, wr = W1.drewN m) (fun _ i _ => a.length - (intOf i).toNat)
    case atStart => exact ⟨0, 0, Nat.zero_le _, rfl, rfl, Int.le_refl _, by omega, by rw [Int.zero_add]; rfl, 0, rfl⟩
    case round =>
      obtain ⟨k, s, hk, rfl, rfl, hs0, hs1, hco, m, hwr⟩ := hrel
      by_cases hlt : k < a.length
      · obtain ⟨g, o, rfl, hg, hc⟩ := a3 (by omega)
        obtain ⟨c0, c1⟩ := hc k hlt
        obtain ⟨-, -, r3, r4⟩ := mem_row CC.out (List.getElem_mem hlt)
        rw [dsum_cut hlt] at hco
        obtain ⟨t, ht⟩ : ∃ t, t = a[k] := ⟨_, rfl⟩
        rw [← ht] at c0 c1 r3 r4 hco
        obtain ⟨row, y⟩ := t
        dsimp only at c0 c1 r3 r4 hco
        replace c0 : wr.cell? ⟨g, o + k * 2, none⟩ = some (.int .i64 row) := by rw [hwr]; exact c0
        replace c1 : wr.cell? ⟨g, o + k * 2 + 1, none⟩ = some (.int .i64 y) := by rw [hwr]; exact c1
        have CO := Lib.hid (fun d => rcoef_any (.slice fb b.length nb) b row (wr.drewN d) (show TermsV (wr.drewN d) (.slice fb b.length nb) b from by rw [hwr]; exact HB.out))
        have hb1 := CB.out row
        obtain ⟨z, hz⟩ : ∃ z, z = co b row := ⟨_, rfl⟩
        rw [← hz] at CO hb1 hco
        have hyz := prod_bd (x := y) (y := z) (by omega) (by omega) hb1.1 (by omega)
        have w1 : IntKind.i64.wrap (y * z) = y * z := by rw [IntWalk.i64_left, IntWalk.wrap64_in _ (by omega)]
        have w2 : IntKind.i64.wrap (s + y * z) = s + y * z := by rw [IntWalk.i64_left, IntWalk.wrap64_in _ (by omega)]
        have hmd := md_bd hp (s + y * z)
        have hmm := tmod_md (p := p) (x := s + y * z) (by omega)
        have hnew : md p (dsum a b) = md p (md p (s + y * z) + dsum (a.drop (k + 1)) b) := by
          rw [hco, ← Int.add_assoc]
          unfold md
          rw [Int.emod_add_emod]
        obtain ⟨s', hs'⟩ : ∃ s', s' = md p (s + y * z) := ⟨_, rfl⟩
        rw [← hs'] at hmd hmm hnew
        have HN := Lib.hid hnew
        have HW := Lib.hid hwr
        have hkl : (k : Int) < a.length := by omega
        have hk0 : (0 : Int) ≤ (k : Int) := by omega
        clear hc a3 ht hco hz hs' hnew hwr
        go_wp2
        go_quiet ((go_at_call 20; exact quiet_same (CO.out _)))
        go_wp2
        exact ⟨⟨k + 1, s', by omega, by go_num, rfl, hmd.1, hmd.2, HN.out, _, by rw [HW.out]; exact World.drewN_drewN _ _ _⟩, by simp [intOf]; omega⟩
      · have hkl : k = a.length := by omega
        have e : md p (dsum a b) = s := by
          rw [hco, hkl, List.drop_length]
          show (s + 0) % p = s
          rw [Int.add_zero, Int.emod_eq_of_lt hs0 hs1]
        have HE := Lib.hid e
        have HW := Lib.hid (show Below w.heap.size w wr from by rw [hwr]; exact below_drewN HB1.out _)
        clear hco a3 hwr e
        go_wp2
        go_ret2
        exact ⟨by rw [HE.out]; rfl, HW.out⟩
  · have e0 : (x == 0) = false := beq_eq_false_iff_ne.2 h0
    rw [if_neg h0]
    clear h0 hx ha hb B1
    go_enter Tryd.func27, Tryd.ntmps27
    go_wp2_with fail
    rw [← hW1]
    clear hW1
    refine Calls.mono CA.out ?_
    rintro e w' ⟨rfl, rfl⟩
    go_wp2
    go_ret2
    exact ⟨rfl, HB1.out⟩
end Go.Proofs.YtdhcffboaiajeaaDoor
