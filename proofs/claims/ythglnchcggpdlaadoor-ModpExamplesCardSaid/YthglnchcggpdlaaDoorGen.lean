/-
  What modp.Generator returns, at every argument.
-/
import Derived.Test.YthglnchcggpdlaaDoorSearch
import Derived.Deep.LoopGhost
import Derived.WalkMore
namespace Go.Proofs.YthglnchcggpdlaaDoor
open Go.RowKit M

theorem gen_no (p : Int) (w : World) (ht : Tab w) (hp : pr p = false) :
    Calls Tryd.prog 29 #[.int .i64 p] w fun e w' => e = .returned (.tuple #[.int .i64 0, .int .i64 8]) ∧ w = w' := by
  have HT := Lib.hid ht
  clear ht
  go_enter Tryd.func29, Tryd.ntmps29
  go_wp2_with (go_at_call 11; refine (prime_any p _ HT.out).mono ?_; rw [hp]; rintro e w' ⟨rfl, rfl⟩)
  go_wp2
  go_step3
  go_wp2_with (go_at_call 11; refine (prime_any p _ HT.out).mono ?_; rw [hp]; rintro e w' ⟨rfl, rfl⟩)
  rw [Exit.noGoto_ret]
  go_ret2
  exact ⟨rfl, rfl⟩
theorem gen_ok (p : Int) (w : World) (ht : Tab w) (hp : pr p = true) :
    Calls Tryd.prog 29 #[.int .i64 p] w fun e w' => e = .returned (.tuple #[.int .i64 (genN p), .int .i64 0]) ∧ w = w' := by
  have HT := Lib.hid ht
  obtain ⟨q1, q2⟩ := pr_bd hp
  clear ht
  go_enter Tryd.func29, Tryd.ntmps29
  go_wp2
  go_step3
  go_wp2_with (go_at_call 11; refine (prime_any p _ HT.out).mono ?_; rw [hp]; rintro e w' ⟨rfl, rfl⟩)
  go_step3
  go_wp2
  obtain ⟨g1, g2, -⟩ := gen_spec hp
  go_loopg [4] (genN p - 1) (fun k g wr => ∃ j : Nat, 1 ≤ j ∧ j ≤ genN p ∧ genN p ≤ k + j ∧ g = .int .i64 j ∧ w = wr)
  case atStart => exact ⟨1, Nat.le_refl _, g1, by omega, rfl, rfl⟩
  case round =>
    obtain ⟨j, j1, j2, j3, rfl, rfl⟩ := hrel
    obtain ⟨gj, hgj⟩ : ∃ gj, gj = gk := ⟨_, rfl⟩
    rw [← hgj] at j3
    have jp : (j : Int) < p := by omega
    have HF := Lib.hid (fermat hp (j : Int) (md_nat j1 jp))
    go_wp2
    go_loopg [5, 6] (p - 1).toNat (fun k x n wr => ∃ i m : Nat, Hid (m = i + 1) ∧ m ≤ (p - 1).toNat ∧ (p - 1).toNat ≤ k + i ∧ Hid (NoHit (fO p j) 1 (i + 1)) ∧ x = .int .i64 (pw p j i) ∧ n = .int .i64 m ∧ w = wr)
    case atStart => exact ⟨0, 1, rfl, by omega, by omega, NoHit.start _ _, by rw [pw_zero hp], rfl, rfl⟩
    case round =>
      obtain ⟨i, m, hm, m1, m2, hN, rfl, rfl, rfl⟩ := hrel
      have hm1 : m = i + 1 := hm.out
      obtain ⟨x1, x2⟩ := pw_bd hp (j : Int) i
      obtain ⟨y1, y2⟩ := prod_bd x1 (by omega) (show 0 ≤ (j : Int) by omega) (by omega)
      have hs := pw_step_nat jp i
      have m3 : 1 ≤ m := by omega
      have hi : i < (p - 1).toNat := by omega
      by_cases hx : pw p j (i + 1) = 1
      · have ho := ord_hit hN.out hx hi
        have hx' : (pw p j i * j % p == 1) = true := by rw [hs, hx]; rfl
        by_cases hq : m = (p - 1).toNat
        · have HR := Lib.hid (gen_hit (by rw [ho, ← hm1]; exact hq) j1 j2)
          have hq' : ((m : Int) == p - 1) = true := by simp; omega
          clear hq hs hx ho hm1
          go_wp2
          rw [Exit.noGoto_ret]
          go_ret2
          exact ⟨ret_two (congrArg Nat.cast HR.out) rfl, rfl⟩
        · have HR := Lib.hid (gen_miss hp (by rw [ho, ← hm1]; exact hq) j2)
          have hq' : ((m : Int) == p - 1) = false := by simp; omega
          clear hq hs hx ho hm1
          go_wp2
          go_roundg (genN p - j - 1)
          case rel => exact ⟨j + 1, by omega, HR.out, by omega, by go_num, rfl⟩
          case measure => have := HR.out; omega
      · have hx' : (pw p j i * j % p == 1) = false := by rw [hs]; simp [hx]
        have HS := Lib.hid hs
        have HN := Lib.hid (hN.out.snoc (by unfold fO; simp [hx]))
        have hq : m ≠ (p - 1).toNat := fun e => hx (by have := HF.out; rw [← e, hm1] at this; exact this)
        have m4 : m < (p - 1).toNat := by omega
        have HM := Lib.hid hm1
        clear hq hs hx hm1
        go_wp2
        go_roundg ((p - 1).toNat - i - 1)
        case rel => exact ⟨i + 1, m + 1, by have := HM.out; show m + 1 = i + 1 + 1; omega, by omega, by omega, HN.out, by rw [HS.out], by go_num, rfl⟩
        case measure => omega
end Go.Proofs.YthglnchcggpdlaaDoor
