/-
  ColumnDenseMatches returns true.
-/
import Derived.Test.YtdhcffboaiajeaaDoorRDense
import Derived.Test.YtdhcffboaiajeaaDoorROf
import Derived.Test.YtdhcffboaiajeaaDoorRSameI
import Derived.Test.YtdhcffboaiajeaaDoorDenseLaw
namespace Go.Proofs.YtdhcffboaiajeaaDoor
open Go.RowKit M

set_option maxHeartbeats 4000000 in
set_option maxRecDepth 100000 in
theorem denseMatches (p : Int) (v vc : Value) (n : Int) (l : List Int) (c : List Tm) (w : World) (tb : Tab w) (hl : IntsV w v l) (hc : TermsV w vc c) : Calls Tryd.prog 4 #[.int .i64 p, v, vc, .int .i64 n] w fun e w' => e = .returned (.bool true) ∧ Below w.heap.size w w' := by
  have T := Lib.hid tb
  have TT := Lib.hid (fun W (hb : Below w.heap.size w W) => T.out.on hb)
  have AW := Lib.hid (fun W (hb : Below w.heap.size w W) => awake_true W (TT.out W hb))
  have HV := Lib.hid hl.ints
  have HC := Lib.hid hc
  obtain ⟨va, vn, rfl, i1, i2, i3⟩ := hl
  obtain ⟨ca, cn, rfl⟩ := slice_of hc
  have AW0 := Lib.hid (AW.out w (Below.refl _ _))
  have OF := Lib.hid (of_col p _ l.length _ w (TT.out _ (Below.refl _ _)) HV.out)
  clear tb hc i3
  by_cases hbig : (60 < l.length ∧ l.length ≤ 1024) ∨ 30 < c.length
  · have hb2 : (60 < l.length ∧ l.length ≤ 1024) ∨ (¬ (60 < l.length ∧ l.length ≤ 1024) ∧ 30 < c.length) := by omega
    rcases hb2 with ⟨h1, h2⟩ | ⟨h1, h2⟩
    · have d1 : decide ((60 : Int) < l.length) = true := decide_eq_true (by omega)
      have d2 : decide ((l.length : Int) ≤ 1024) = true := decide_eq_true (by omega)
      go_enter Tryd.func4, Tryd.ntmps4
      go_wp2_with fail
      refine Calls.mono AW0.out ?_
      rintro e w1 ⟨rfl, b1⟩
      have B1 := Lib.hid b1
      clear b1
      go_wp2
      go_ret
      exact ⟨rfl, B1.out⟩
    · have d3 : decide ((30 : Int) < c.length) = true := decide_eq_true (by omega)
      by_cases h3 : 60 < l.length
      · have d1 : decide ((60 : Int) < l.length) = true := decide_eq_true (by omega)
        have d2 : decide ((l.length : Int) ≤ 1024) = false := decide_eq_false (by omega)
        go_enter Tryd.func4, Tryd.ntmps4
        go_wp2_with fail
        refine Calls.mono AW0.out ?_
        rintro e w1 ⟨rfl, b1⟩
        have B1 := Lib.hid b1
        clear b1
        go_wp2
        go_ret
        exact ⟨rfl, B1.out⟩
      · have d1 : decide ((60 : Int) < l.length) = false := decide_eq_false (by omega)
        go_enter Tryd.func4, Tryd.ntmps4
        go_wp2_with fail
        refine Calls.mono AW0.out ?_
        rintro e w1 ⟨rfl, b1⟩
        have B1 := Lib.hid b1
        clear b1
        go_wp2
        go_ret
        exact ⟨rfl, B1.out⟩
  · have d3 : decide ((30 : Int) < c.length) = false := decide_eq_false (by omega)
    have hcase : (decide ((60 : Int) < l.length) = false) ∨ (decide ((60 : Int) < l.length) = true ∧ decide ((l.length : Int) ≤ 1024) = false) := by
      by_cases h : (60 : Int) < l.length
      · exact .inr ⟨decide_eq_true h, decide_eq_false (by omega)⟩
      · exact .inl (decide_eq_false h)
    obtain ⟨ox, hox⟩ : ∃ ox, ox = ofE p l.length := ⟨_, rfl⟩
    obtain ⟨dx, hdx⟩ : ∃ dx, dx = denE p c n := ⟨_, rfl⟩
    obtain ⟨W, hW⟩ : ∃ W, W = (if ofE p l.length = 0 then sp (fun i => md p (l.getD i.toNat 0)) 0 l.length else []) := ⟨_, rfl⟩
    obtain ⟨N, hN⟩ : ∃ N, N = (if denE p c n = 0 then n.toNat else 0) := ⟨_, rfl⟩
    have RO := Lib.hid (fun W1 (hb : Below w.heap.size w W1) => rof_any p _ l.length _ W1 (HV.out.below hb))
    have DN := Lib.hid (fun W1 (hb : Below w.heap.size w W1) => dense_col p n _ c W1 (TT.out W1 hb) (HC.out.below hb))
    have RD := Lib.hid (fun W1 (hb : Below w.heap.size w W1) => rdense_any p n _ c W1 (HC.out.below hb))
    rw [← hW, ← hox] at OF RO
    rw [← hN, ← hdx] at DN RD
    clear hox hdx hW hN hbig
    rcases hcase with d1 | ⟨d1, d2⟩
    all_goals
      go_enter Tryd.func4, Tryd.ntmps4
      go_wp2_with fail
      refine Calls.mono OF.out ?_
      rintro e w1 ⟨v1, rfl, t1, -, b1⟩
      have B1 := Lib.hid b1
      have T1 := Lib.hid t1
      clear b1 t1
      go_wp2_with fail
      refine Calls.mono (RO.out _ B1.out) ?_
      rintro e w2 ⟨v2, rfl, t2, -, b2⟩
      have B2 := Lib.hid (B1.out.trans (b2.mono B1.out.size))
      have T1b := Lib.hid (T1.out.below b2)
      have T2 := Lib.hid t2
      clear b2 t2 T1
      go_wp2_with fail
      refine Calls.mono (DN.out _ B2.out) ?_
      rintro e w3 ⟨v3, rfl, t3, -, b3⟩
      have B3 := Lib.hid (B2.out.trans (b3.mono B2.out.size))
      have T1c := Lib.hid (T1b.out.below b3)
      have T2c := Lib.hid (T2.out.below b3)
      have T3 := Lib.hid t3
      clear b3 t3 T1b T2
      go_wp2_with fail
      refine Calls.mono (RD.out _ B3.out) ?_
      rintro e w4 ⟨v4, rfl, t4, -, b4⟩
      have B4 := Lib.hid (B3.out.trans (b4.mono B3.out.size))
      have SA := Lib.hid (same_any _ _ W W w4 (T1c.out.below b4) (T2c.out.below b4))
      rw [decide_eq_true rfl] at SA
      have T3d := Lib.hid (T3.out.below b4)
      have T4 := Lib.hid t4
      clear b4 t4 T1c T2c T3
      go_wp2_with fail
      refine Calls.mono SA.out ?_
      rintro e w5 ⟨rfl, m5, h5⟩
      have b5 : Below w4.heap.size w4 w5 := by rw [h5]; exact below_drewN (Below.refl _ _) _
      have B5 := Lib.hid (B4.out.trans (b5.mono B4.out.size))
      have SI := Lib.hid (rsameI_yes _ _ N (co c) w5 (T3d.out.below b5) (T4.out.below b5))
      clear h5 b5 SA T3d T4
      go_wp2_with fail
      refine Calls.mono SI.out ?_
      rintro e w6 ⟨rfl, m6, h6⟩
      have B6 := Lib.hid (show Below w.heap.size w w6 from by rw [h6]; exact below_drewN B5.out _)
      clear h6 SI
      go_wp2_with fail
      refine Calls.mono (AW.out _ B6.out) ?_
      rintro e w7 ⟨rfl, b7⟩
      have B7 := Lib.hid (B6.out.trans (b7.mono B6.out.size))
      clear b7
      go_wp2
      go_ret
      exact ⟨rfl, B7.out⟩
end Go.Proofs.YtdhcffboaiajeaaDoor
