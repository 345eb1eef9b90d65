/-
  ColumnKernel returns true.
-/
import Derived.Test.YtdhcffboaiajeaaDoorAwake
namespace Go.Proofs.YtdhcffboaiajeaaDoor
open Go.RowKit M

theorem sp_nil0 {f : Int → Int} (h : ∀ i, f i = 0) : ∀ n k, sp f k n = []
  | 0, _ => rfl
  | n + 1, k => by unfold sp; rw [if_pos (h _)]; exact sp_nil0 h n (k + 1)
section
variable {q : Nat} [NeZero q]
theorem IsRank.uniq {L : List (List Tm)} {n m : Nat} (F : Fld q) (h : IsRank q L n) (g : IsRank q L m) : n = m := by
  obtain ⟨E, h1, h2, h3, -⟩ := g
  rw [← h3]
  exact h.of F h1 h2
theorem ker_facts {L Z : List (List Tm)} {n m : Nat} (F : Fld q) (hK : IsKer q L Z) (hn : IsRank q L n) (hm : IsRank q Z m) : n + Z.length = L.length ∧ m = Z.length := by
  obtain ⟨k, h1, h2⟩ := hK.dim
  exact ⟨by rw [hn.uniq F h1]; exact h2, hm.of F hK.red.ind (Same.refl Z)⟩
theorem ker_cmb {L Z : List (List Tm)} {z : List Tm} (hK : IsKer q L Z) (hp : pr (q : Int) = true) (hL : chkLs q L = 0) (hz : z ∈ Z) : cmbE q L z = 0 ∧ sp (fun i => md q (cmb L (fun k => co z k) i)) 0 1024 = [] := by
  have hc := hK.red.cols z hz
  have h0 : chk q z = 0 := chk_zero.2 ⟨hp, hc⟩
  refine ⟨?_, sp_nil0 (fun i => ?_) _ _⟩
  · unfold cmbE
    rw [if_pos hL, if_pos h0, if_neg]
    rintro ⟨h1, h2⟩
    have h3 := hK.row z hz _ h2
    obtain ⟨-, -, -, h4, -, h5, -⟩ := low_props hc h1
    omega
  · have h1 := hK.zero z hz i
    have h2 := io_eq.1 (h1.trans io_zero.symm)
    rw [h2]
    exact Int.zero_emod _
end
theorem fld_nat (k : Int) : ∃ q : Nat, fld k = q ∧ 2 ≤ q := by
  have h := pr_bd (fld_pr k)
  exact ⟨(fld k).toNat, by omega, by omega⟩
theorem ListV.form {w : World} {v : Value} {L : List (List Tm)} (h : ListV w v L) : ∃ a n, v = .slice a L.length n := let ⟨a, n, e, _⟩ := h; ⟨a, n, e⟩
set_option maxHeartbeats 4000000 in
set_option maxRecDepth 100000 in
theorem kernelLaw (which : Int) (v : Value) (L : List (List Tm)) (w : World) (tb : Tab w) (hL : ListV w v L) : Calls Tryd.prog 9 #[.int .i64 which, v] w fun e w' => e = .returned (.bool true) ∧ Below w.heap.size w w' := by
  have T := Lib.hid tb
  have TT := Lib.hid (fun W (hb : Below w.heap.size w W) => T.out.on hb)
  have FA := Lib.hid (field_any which w)
  have hp := fld_pr which
  obtain ⟨q, hq, hq2⟩ := fld_nat which
  rw [hq] at hp
  replace FA := Lib.hid (hq ▸ FA.out)
  haveI : NeZero q := ⟨by omega⟩
  have F := fld_of hp
  have HL := Lib.hid hL
  obtain ⟨la, ln, rfl⟩ := hL.form
  clear tb hL hq
  go_enter Tryd.func9, Tryd.ntmps9
  go_wp2_with fail
  refine Calls.mono FA.out ?_
  rintro e w1 ⟨rfl, b1⟩
  have B1 := Lib.hid b1
  have FL := Lib.hid (fitList_any q _ L w1 hp (HL.out.below b1))
  clear b1
  go_wp2_with fail
  refine Calls.mono FL.out ?_
  rintro e w2 ⟨v2, R, rfl, hR, hF, h8, hf, b2⟩
  obtain ⟨ra, rn, rfl⟩ := hR.form
  have HR := Lib.hid hR
  have B2 := Lib.hid (B1.out.trans (b2.mono B1.out.size))
  have hcR : chkLs q R = 0 := chkLs_zero.2 ⟨by omega, hp, hF.cols⟩
  have KE := Lib.hid (kernel_col (q := q) _ R w2 (TT.out _ B2.out) HR.out)
  rw [hcR] at KE
  clear b2 hR hf FL FA
  go_wp2_with fail
  refine Calls.mono KE.out ?_
  rintro e w3 ⟨v3, Z, rfl, hZ, hK, -, -, b3⟩
  obtain ⟨za, zn, rfl⟩ := hZ.form
  have HK := Lib.hid (hK rfl)
  have HZ := Lib.hid hZ
  have HR3 := Lib.hid (HR.out.below b3)
  have B3 := Lib.hid (B2.out.trans (b3.mono B2.out.size))
  have RK := Lib.hid (rank_col (q := q) _ R w3 (TT.out _ B3.out) HR3.out)
  rw [hcR] at RK
  clear b3 hZ hK KE HR
  go_wp2_with fail
  refine Calls.mono RK.out ?_
  rintro e w4 ⟨n, rfl, hn, -, b4⟩
  have HN := Lib.hid (hn rfl)
  have HZ4 := Lib.hid (HZ.out.below b4)
  have HR4 := Lib.hid (HR3.out.below b4)
  have B4 := Lib.hid (B3.out.trans (b4.mono B3.out.size))
  have hZl : Z.length ≤ 8 := by
    obtain ⟨k, -, e⟩ := HK.out.dim
    omega
  have hcZ : chkLs q Z = 0 := chkLs_zero.2 ⟨by omega, hp, HK.out.red.cols⟩
  have RZ := Lib.hid (rank_col (q := q) _ Z w4 (TT.out _ B4.out) HZ4.out)
  rw [hcZ] at RZ
  clear b4 hn RK HZ HR3
  go_wp2_with fail
  refine Calls.mono RZ.out ?_
  rintro e w5 ⟨m, rfl, hm, -, b5⟩
  obtain ⟨f1, f2⟩ := ker_facts F HK.out HN.out (hm rfl)
  have HZ5 := Lib.hid (HZ4.out.below b5)
  have HR5 := Lib.hid (HR4.out.below b5)
  have B5 := Lib.hid (B4.out.trans (b5.mono B4.out.size))
  have hn8 : n ≤ 8 := by omega
  have g1 : (n : Int) + Z.length = R.length := by omega
  have g2 : (n : Int) + Z.length ≤ 8 := by omega
  subst f2
  clear b5 hm RZ HZ4 HR4 f1
  go_wp2
  go_loopw [69] (fun i wr => ∃ k : Nat, k ≤ Z.length ∧ i = .int .i64 k ∧ Below w5.heap.size w5 wr) (fun i _ => Z.length - (intOf i).toNat)
  case atStart => exact ⟨0, Nat.zero_le _, rfl, Below.refl _ _⟩
  case round =>
    obtain ⟨k, hk, rfl, hB⟩ := hrel
    have HB := Lib.hid hB
    have HZ6 := Lib.hid (HZ5.out.below hB)
    have HR6 := Lib.hid (HR5.out.below hB)
    have B6 := Lib.hid (B5.out.trans (hB.mono B5.out.size))
    clear hB
    by_cases hlt : k < Z.length
    · obtain ⟨za', zn', hza, z1, z2, z3⟩ := HZ6.out
      obtain ⟨g, o, rfl, hg, hc⟩ := z3 (by omega)
      injection hza with hza1 hza2 hza3
      subst hza1 hza3
      obtain ⟨u, d0, hT⟩ := hc k hlt
      obtain ⟨c1, c2⟩ := ker_cmb HK.out hp hcR (List.getElem_mem hlt)
      have CO := Lib.hid (combine_col q _ u R Z[k] wr (TT.out _ B6.out) HR6.out hT)
      rw [c1, if_pos rfl, c2] at CO
      have hkz : (k : Int) < Z.length := by omega
      clear hc z3 hT c1 c2 HZ6
      go_wp2_with fail
      refine Calls.mono CO.out ?_
      rintro e w6 ⟨v6, rfl, hT6, -, b6⟩
      obtain ⟨ca, cn, rfl⟩ := slice_of hT6
      have HB7 := Lib.hid (HB.out.trans (b6.mono HB.out.size))
      clear hT6 b6
      go_wp2
      exact ⟨⟨k + 1, by omega, by go_num, HB7.out⟩, by simp [intOf]; omega⟩
    · have BE := Lib.hid (basis_col (q := q) _ Z wr (TT.out _ B6.out) HZ6.out)
      rw [hcZ] at BE
      go_wp2_with fail
      refine Calls.mono BE.out ?_
      rintro e w6 ⟨v6, Bs, rfl, hBs, hr, -, -, b6⟩
      obtain ⟨ba, bn, rfl⟩ := hBs.form
      obtain ⟨r1, r2⟩ := hr rfl
      obtain rfl : Bs = Z := Rd.unique F hq2 r2 r1 HK.out.red
      have HB7 := Lib.hid (B6.out.trans (b6.mono B6.out.size))
      have SL := Lib.hid (sameList_any _ _ Bs Bs w6 hBs (HZ6.out.below b6))
      have AW := Lib.hid (fun W (hb : Below w.heap.size w W) => awake_true W (TT.out W hb))
      rw [decide_eq_true rfl] at SL
      clear hBs hr r1 r2 b6 BE
      go_wp2_with fail
      refine Calls.mono SL.out ?_
      rintro e w7 ⟨rfl, m, hm⟩
      have HB8 := Lib.hid (show Below w.heap.size w w7 from by rw [hm]; exact below_drewN HB7.out _)
      clear hm
      go_wp2_with fail
      refine Calls.mono (AW.out _ HB8.out) ?_
      rintro e w8 ⟨rfl, b8⟩
      have HB9 := Lib.hid (HB8.out.trans (b8.mono HB8.out.size))
      clear b8
      go_wp2
      go_ret
      exact ⟨rfl, HB9.out⟩
end Go.Proofs.YtdhcffboaiajeaaDoor
