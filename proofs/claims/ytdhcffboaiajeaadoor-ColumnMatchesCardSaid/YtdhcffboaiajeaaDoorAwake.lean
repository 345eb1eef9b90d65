/-
  The statements' awake returns true.
-/
import Derived.Test.YtdhcffboaiajeaaDoorLaw
namespace Go.Proofs.YtdhcffboaiajeaaDoor
open Go.RowKit M

set_option maxHeartbeats 4000000 in
set_option maxRecDepth 100000 in
theorem awake_true (w : World) (tb : Tab w) : Calls Tryd.prog 13 #[] w fun e w' => e = .returned (.bool true) ∧ Below w.heap.size w w' := by
  have T := Lib.hid tb
  have hgt := tb.lt
  have TT := Lib.hid (fun W (hb : Below w.heap.size w W) => T.out.on hb)
  clear tb
  go_enter Tryd.func13, Tryd.ntmps13
  go_wp2_with fail
  refine Calls.mono (exA_any w) ?_
  rintro e w1 ⟨a1, rfl, hA1, -, b1⟩
  have B1 := Lib.hid b1
  have HA1 := Lib.hid hA1
  clear hA1 b1
  go_wp2_with fail
  refine Calls.mono (exB_any w1) ?_
  rintro e w2 ⟨a2, rfl, hA2, -, b2⟩
  have B2 := Lib.hid (B1.out.trans (b2.mono B1.out.size))
  have AD := Lib.hid (add_col 5 3 a1 a2 cA cB w2 (TT.out _ B2.out) (HA1.out.below b2) hA2)
  rw [awk_chk, if_pos rfl, awk_add] at AD
  clear hA2 b2 HA1
  go_wp2_with fail
  refine Calls.mono AD.out ?_
  rintro e w3 ⟨va, rfl, hT3, -, b3⟩
  have B3 := Lib.hid (B2.out.trans (b3.mono B2.out.size))
  have HT3 := Lib.hid hT3
  clear hT3 b3 AD
  go_wp2_with fail
  refine Calls.mono (exA_any w3) ?_
  rintro e w4 ⟨a3, rfl, hA3, -, b4⟩
  have B4 := Lib.hid (B3.out.trans (b4.mono B3.out.size))
  have HA3 := Lib.hid hA3
  have HT4 := Lib.hid (HT3.out.below b4)
  clear hA3 b4 HT3
  go_wp2_with fail
  refine Calls.mono (exB_any w4) ?_
  rintro e w5 ⟨a4, rfl, hA4, -, b5⟩
  have B5 := Lib.hid (B4.out.trans (b5.mono B4.out.size))
  have DO := Lib.hid (dot_col 5 a3 a4 cA cB w5 (TT.out _ B5.out) (HA3.out.below b5) hA4)
  rw [awk_chk, if_pos rfl, awk_dot] at DO
  have HT5 := Lib.hid (HT4.out.below b5)
  clear hA4 b5 HA3 HT4
  go_wp2_with fail
  refine Calls.mono DO.out ?_
  rintro e w6 ⟨rfl, b6⟩
  have B6 := Lib.hid (B5.out.trans (b6.mono B5.out.size))
  have HT6 := Lib.hid (HT5.out.below b6)
  clear b6 DO HT5
  go_wp2_with fail
  refine Calls.mono (exA_any w6) ?_
  rintro e w7 ⟨a5, rfl, hA5, -, b7⟩
  have B7 := Lib.hid (B6.out.trans (b7.mono B6.out.size))
  obtain ⟨p5, n5, rfl⟩ := slice_of hA5
  have HA5 := Lib.hid hA5
  have HT7 := Lib.hid (HT6.out.below b7)
  clear hA5 b7 HT6
  go_wp2_with fail
  refine Calls.mono (exB_any w7) ?_
  rintro e w8 ⟨a6, rfl, hA6, -, b8⟩
  have B8 := Lib.hid (B7.out.trans (b8.mono B7.out.size))
  obtain ⟨p6, n6, rfl⟩ := slice_of hA6
  have HA6 := Lib.hid hA6
  have HA58 := Lib.hid (HA5.out.below b8)
  have HT8 := Lib.hid (HT7.out.below b8)
  clear hA6 b8 HT7 HA5
  obtain ⟨W1, hW1⟩ : ∃ W1, W1 = (w8.alloc (.cells #[.slice p5 cA.length n5, .slice p6 cB.length n6] 22)).alloc (.cells #[.int .i64 4, .int .i64 1] 37) := ⟨_, rfl⟩
  have C1 : Below w8.heap.size w8 W1 := by rw [hW1]; exact ((Below.refl _ w8).alloc (Nat.le_refl _) _).alloc (by simp) _
  have L1 : ListV W1 (.slice (some ⟨w8.heap.size, 0, none⟩) 2 2) [cA, cB] := by rw [hW1]; exact (laidL2 w8 _ _ cA cB _ HA58.out HA6.out).below ((Below.refl _ _).alloc (Nat.le_refl _) _)
  have M1 : TermsV W1 (.slice (some ⟨w8.heap.size + 1, 0, none⟩) 1 1) [(4, 1)] := by
    rw [hW1]
    have := laid1 (w8.alloc (.cells #[.slice p5 cA.length n5, .slice p6 cB.length n6] 22)) 4 1 37
    rw [World.size_alloc] at this
    exact this
  have D1 := Lib.hid (B8.out.trans (C1.mono B8.out.size))
  have RE := Lib.hid (rest_col 5 _ _ [cA, cB] [(4, 1)] W1 (TT.out _ D1.out) L1 M1)
  rw [awk_rs] at RE
  have HT9 := Lib.hid (HT8.out.below C1)
  go_wp2_with fail
  rw [← hW1]
  clear C1 L1 M1 hW1 HT8 HA58 HA6
  refine Calls.mono RE.out ?_
  rintro e w9 ⟨vr, vu, r, u, rfl, hTr, hTu, hIR, -, -, -, b9⟩
  obtain ⟨rfl, rfl⟩ := awk_rest (hIR rfl)
  have B9 := Lib.hid (D1.out.trans (b9.mono D1.out.size))
  have HT10 := Lib.hid (HT9.out.below b9)
  have HTr := Lib.hid hTr
  have HTu := Lib.hid hTu
  clear hTr hTu hIR b9 RE HT9
  go_wp2_with fail
  refine Calls.mono (exA_any w9) ?_
  rintro e w10 ⟨a7, rfl, hA7, -, b10⟩
  obtain ⟨p7, n7, rfl⟩ := slice_of hA7
  have HA7 := Lib.hid hA7
  have B10 := Lib.hid (B9.out.trans (b10.mono B9.out.size))
  have HT11 := Lib.hid (HT10.out.below b10)
  have HTr2 := Lib.hid (HTr.out.below b10)
  have HTu2 := Lib.hid (HTu.out.below b10)
  clear hA7 b10 HT10 HTr HTu
  obtain ⟨W2, hW2⟩ : ∃ W2, W2 = (w10.alloc (.cells #[.int .i64 0, .int .i64 4, .int .i64 3, .int .i64 2] 37)).alloc (.cells #[.slice p7 cA.length n7, .slice (some ⟨w10.heap.size, 0, none⟩) 2 2] 22) := ⟨_, rfl⟩
  have C2 : Below w10.heap.size w10 W2 := by rw [hW2]; exact ((Below.refl _ w10).alloc (Nat.le_refl _) _).alloc (by simp) _
  have L2 : ListV W2 (.slice (some ⟨w10.heap.size + 1, 0, none⟩) 2 2) [cA, cC] := by
    rw [hW2]
    have := laidL2 (w10.alloc (.cells #[.int .i64 0, .int .i64 4, .int .i64 3, .int .i64 2] 37)) _ _ cA cC 22 (HA7.out.alloc _) (laid2 w10 0 4 3 2 _)
    rw [World.size_alloc] at this
    exact this
  have D2 := Lib.hid (B10.out.trans (C2.mono B10.out.size))
  have KE := Lib.hid (show Calls Tryd.prog 42 #[.int .i64 5, .slice (some ⟨w10.heap.size + 1, 0, none⟩) 2 2] W2 (GivesLE (IsKer 5 [cA, cC]) (chkLs 5 [cA, cC]) W2) from kernel_col (q := 5) _ [cA, cC] W2 (TT.out _ D2.out) L2)
  rw [awk_ls] at KE
  have HT12 := Lib.hid (HT11.out.below C2)
  have HTr3 := Lib.hid (HTr2.out.below C2)
  have HTu3 := Lib.hid (HTu2.out.below C2)
  go_wp2_with fail
  rw [← hW2]
  clear C2 L2 hW2 HT11 HTr2 HTu2 HA7
  refine Calls.mono KE.out ?_
  rintro e w11 ⟨vk, Z, rfl, hZ, hIK, -, -, b11⟩
  obtain rfl := awk_ker (hIK rfl)
  have B11 := Lib.hid (D2.out.trans (b11.mono D2.out.size))
  have HT13 := Lib.hid (HT12.out.below b11)
  have HTr4 := Lib.hid (HTr3.out.below b11)
  have HTu4 := Lib.hid (HTu3.out.below b11)
  obtain ⟨pk, nk, rfl, k1, k2, k3⟩ := hZ
  obtain ⟨gk, ok, rfl, hgk, hck⟩ := k3 (by simp)
  obtain ⟨vk0, d0, hTk⟩ := hck 0 (by simp)
  have HTk := Lib.hid (show TermsV w11 vk0 cM from hTk)
  have S1 := Lib.hid (fun W wv (hb : Below w11.heap.size w11 W) (hw : TermsV W wv [(0, 2), (4, 2)]) => is_any va wv _ _ 0 W (HT13.out.below hb) hw)
  have S2 := Lib.hid (fun W wv (hb : Below w11.heap.size w11 W) (hw : TermsV W wv [(0, 4)]) => is_any vr wv _ _ 0 W (HTr4.out.below hb) hw)
  have S3 := Lib.hid (fun W wv (hb : Below w11.heap.size w11 W) (hw : TermsV W wv [(0, 3), (1, 4)]) => same_any vu wv _ _ W (HTu4.out.below hb) hw)
  have S4 := Lib.hid (fun W wv (hb : Below w11.heap.size w11 W) (hw : TermsV W wv cM) => is_any vk0 wv cM cM 0 W (HTk.out.below hb) hw)
  have KC := Lib.hid (fun W (hb : Below w11.heap.size w11 W) => (hb.cell (p := ⟨gk, ok + 0, none⟩) hgk).trans d0)
  clear hTk hck k3 hIK b11 KE HT12 HTr3 HTu3 HT13 HTr4 HTu4
  simp only [decide_true, beq_self_eq_true, Bool.and_self] at S1 S2 S3 S4
  have E0 := Lib.hid (Below.refl w11.heap.size w11)
  have sz : w.heap.size ≤ w11.heap.size := B11.out.size
  go_wp2_with fail
  refine Calls.mono (S1.out _ _ (E0.out.alloc E0.out.size _) (laid2 _ _ _ _ _ _)) ?_
  rintro e x1 ⟨rfl, m1, hx1⟩
  have E1 := Lib.hid (show Below w11.heap.size w11 x1 from by rw [hx1]; exact below_drewN (E0.out.alloc E0.out.size _) _)
  clear hx1
  go_wp2_with fail
  refine Calls.mono (S2.out _ _ (E1.out.alloc E1.out.size _) (laid1 _ _ _ _)) ?_
  rintro e x2 ⟨rfl, m2, hx2⟩
  have E2 := Lib.hid (show Below w11.heap.size w11 x2 from by rw [hx2]; exact below_drewN (E1.out.alloc E1.out.size _) _)
  clear hx2
  go_wp2_with fail
  refine Calls.mono (S3.out _ _ (E2.out.alloc E2.out.size _) (laid2 _ _ _ _ _ _)) ?_
  rintro e x3 ⟨rfl, m3, hx3⟩
  have E3 := Lib.hid (show Below w11.heap.size w11 x3 from by rw [hx3]; exact below_drewN (E2.out.alloc E2.out.size _) _)
  clear hx3
  have KC3 := KC.out x3 E3.out
  rw [Nat.add_zero] at KC3
  go_wp2_with fail
  refine Calls.mono (S4.out _ _ (E3.out.alloc E3.out.size _) (laid2 _ _ _ _ _ _)) ?_
  rintro e x4 ⟨rfl, m4, hx4⟩
  have E4 := Lib.hid (show Below w11.heap.size w11 x4 from by rw [hx4]; exact below_drewN (E3.out.alloc E3.out.size _) _)
  clear hx4
  go_wp2
  go_ret
  exact ⟨rfl, B11.out.trans (E4.out.mono sz)⟩
end Go.Proofs.YtdhcffboaiajeaaDoor
