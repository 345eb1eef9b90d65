/-
  What the reference's comparisons return for numbers and for inf.
  The law RatioSimplest answers true.
-/
import Derived.Test.YtkhebidmfjbhaaaGreatDoorZ42
import Derived.Deep.RegionHeld3
import Derived.Deep.Cut
import Derived.BigQuiet
namespace Go.Proofs.YtkhebidmfjbhaaaGreatDoor
open Go.RowKit

theorem rcmp_num (s t A B C D X Y : ByteArray) (b1 b2 bs bt : Bool) (c : Int) (w : World) (hs : (s.toList == [105, 110, 102]) = false) (ht : (t.toList == [105, 110, 102]) = false)
    (S1 : ∀ W, Calls Tryz.prog 84 #[.string s] W (GivesS2 A B bs W)) (S2 : ∀ W, Calls Tryz.prog 84 #[.string t] W (GivesS2 C D bt W)) (e1 : (B.toList == [49]) = b1) (e2 : (D.toList == [49]) = b2)
    (h : (b1 && b2) = true → ∀ W, Calls Tryz.prog 121 #[.string A, .string C] W (GivesI c W))
    (T1 : (b1 && b2) = false → ∀ W, Calls Tryz.prog 130 #[.string A, .string D] W (GivesY X W)) (T2 : (b1 && b2) = false → ∀ W, Calls Tryz.prog 130 #[.string C, .string B] W (GivesY Y W)) (T3 : (b1 && b2) = false → ∀ W, Calls Tryz.prog 121 #[.string X, .string Y] W (GivesI c W)) :
    Calls Tryz.prog 72 #[.string s, .string t] w (GivesI c w) := by
  replace S1 := Lib.hid S1
  replace S2 := Lib.hid S2
  have B0 := Lib.hid (Below.refl w.heap.size w)
  cases b1 <;> cases b2
  · have H1 := Lib.hid (T1 rfl)
    have H2 := Lib.hid (T2 rfl)
    have H3 := Lib.hid (T3 rfl)
    clear h T1 T2 T3
    go_enter Tryz.func72, Tryz.ntmps72
    go_wp2_with fail
    (with_reducible refine Calls.mono (S1.out _) ?_)
    rintro e w1 ⟨rfl, hb⟩
    have B1 := Lib.hid (B0.out.trans (hb.mono B0.out.size))
    clear hb
    go_wp2_with fail
    (with_reducible refine Calls.mono (S2.out _) ?_)
    rintro e w2 ⟨rfl, hb⟩
    have B2 := Lib.hid (B1.out.trans (hb.mono B1.out.size))
    clear hb
    go_wp2_with fail
    (with_reducible refine Calls.mono (H1.out _) ?_)
    rintro e w3 ⟨rfl, hb⟩
    have B3 := Lib.hid (B2.out.trans (hb.mono B2.out.size))
    clear hb
    go_wp2_with fail
    (with_reducible refine Calls.mono (H2.out _) ?_)
    rintro e w4 ⟨rfl, hb⟩
    have B4 := Lib.hid (B3.out.trans (hb.mono B3.out.size))
    clear hb
    go_wp2_with fail
    (with_reducible refine Calls.mono (H3.out _) ?_)
    rintro e w5 ⟨rfl, hb⟩
    have B5 := Lib.hid (B4.out.trans (hb.mono B4.out.size))
    clear hb
    go_wp2
    go_ret
    exact ⟨rfl, B5.out⟩
  · have H1 := Lib.hid (T1 rfl)
    have H2 := Lib.hid (T2 rfl)
    have H3 := Lib.hid (T3 rfl)
    clear h T1 T2 T3
    go_enter Tryz.func72, Tryz.ntmps72
    go_wp2_with fail
    (with_reducible refine Calls.mono (S1.out _) ?_)
    rintro e w1 ⟨rfl, hb⟩
    have B1 := Lib.hid (B0.out.trans (hb.mono B0.out.size))
    clear hb
    go_wp2_with fail
    (with_reducible refine Calls.mono (S2.out _) ?_)
    rintro e w2 ⟨rfl, hb⟩
    have B2 := Lib.hid (B1.out.trans (hb.mono B1.out.size))
    clear hb
    go_wp2_with fail
    (with_reducible refine Calls.mono (H1.out _) ?_)
    rintro e w3 ⟨rfl, hb⟩
    have B3 := Lib.hid (B2.out.trans (hb.mono B2.out.size))
    clear hb
    go_wp2_with fail
    (with_reducible refine Calls.mono (H2.out _) ?_)
    rintro e w4 ⟨rfl, hb⟩
    have B4 := Lib.hid (B3.out.trans (hb.mono B3.out.size))
    clear hb
    go_wp2_with fail
    (with_reducible refine Calls.mono (H3.out _) ?_)
    rintro e w5 ⟨rfl, hb⟩
    have B5 := Lib.hid (B4.out.trans (hb.mono B4.out.size))
    clear hb
    go_wp2
    go_ret
    exact ⟨rfl, B5.out⟩
  · have H1 := Lib.hid (T1 rfl)
    have H2 := Lib.hid (T2 rfl)
    have H3 := Lib.hid (T3 rfl)
    clear h T1 T2 T3
    go_enter Tryz.func72, Tryz.ntmps72
    go_wp2_with fail
    (with_reducible refine Calls.mono (S1.out _) ?_)
    rintro e w1 ⟨rfl, hb⟩
    have B1 := Lib.hid (B0.out.trans (hb.mono B0.out.size))
    clear hb
    go_wp2_with fail
    (with_reducible refine Calls.mono (S2.out _) ?_)
    rintro e w2 ⟨rfl, hb⟩
    have B2 := Lib.hid (B1.out.trans (hb.mono B1.out.size))
    clear hb
    go_wp2_with fail
    (with_reducible refine Calls.mono (H1.out _) ?_)
    rintro e w3 ⟨rfl, hb⟩
    have B3 := Lib.hid (B2.out.trans (hb.mono B2.out.size))
    clear hb
    go_wp2_with fail
    (with_reducible refine Calls.mono (H2.out _) ?_)
    rintro e w4 ⟨rfl, hb⟩
    have B4 := Lib.hid (B3.out.trans (hb.mono B3.out.size))
    clear hb
    go_wp2_with fail
    (with_reducible refine Calls.mono (H3.out _) ?_)
    rintro e w5 ⟨rfl, hb⟩
    have B5 := Lib.hid (B4.out.trans (hb.mono B4.out.size))
    clear hb
    go_wp2
    go_ret
    exact ⟨rfl, B5.out⟩
  · have H := Lib.hid (h rfl)
    clear h T1 T2 T3
    go_enter Tryz.func72, Tryz.ntmps72
    go_wp2_with fail
    (with_reducible refine Calls.mono (S1.out _) ?_)
    rintro e w1 ⟨rfl, hb⟩
    have B1 := Lib.hid (B0.out.trans (hb.mono B0.out.size))
    clear hb
    go_wp2_with fail
    (with_reducible refine Calls.mono (S2.out _) ?_)
    rintro e w2 ⟨rfl, hb⟩
    have B2 := Lib.hid (B1.out.trans (hb.mono B1.out.size))
    clear hb
    go_wp2_with fail
    (with_reducible refine Calls.mono (H.out _) ?_)
    rintro e w3 ⟨rfl, hb⟩
    have B3 := Lib.hid (B2.out.trans (hb.mono B2.out.size))
    clear hb
    go_wp2
    go_ret
    exact ⟨rfl, B3.out⟩
theorem inf_not {q : Rat} (h : Sm 1000 q) : ((qx q).toList == [105, 110, 102]) = false := by
  rw [← lit_inf, str_eq]
  exact decide_eq_false (fun e => inf_no q h e.symm)
theorem one_is (z : Int) : ((tx z).toList == [49]) = decide (z = 1) := by
  rw [show ([49] : List UInt8) = (tx 1).toList by rw [lt2 1 _ io1, Lib.toList_data], str_eq]
  exact decide_eq_decide.mpr tx_inj
theorem RCompare_q {a b : Rat} (w : World) (ha : Sm 1000 a) (hb : Sm 1000 b) : Calls Tryz.prog 72 #[.string (qx a), .string (qx b)] w (GivesI (ecmp (some a) (some b)) w) := by
  have d1 := dn_times ha.1 hb.2
  have d2 := dn_times hb.1 ha.2
  have h1 := ha.1
  have h2 := ha.2
  have h3 := hb.1
  have h4 := hb.2
  refine rcmp_num _ _ _ _ _ _ (tx (a.num * b.den)) (tx (b.num * a.den)) _ _ _ _ _ w (inf_not ha) (inf_not hb) (fun W => rsplit_q a W (ha.mono (by omega))) (fun W => rsplit_q b W (hb.mono (by omega))) (one_is _) (one_is _) (fun h W => ?_)
    (fun _ W => rtimes_any _ _ W (by omega) (by omega)) (fun _ W => rtimes_any _ _ W (by omega) (by omega)) (fun _ W => rcompare_any _ _ W (by omega) (by omega))
  rw [Bool.and_eq_true, decide_eq_true_eq, decide_eq_true_eq] at h
  have e : ecmp (some a) (some b) = cmp3 a.num b.num := by
    show cmp3 (a.num * (b.den : Int)) (b.num * (a.den : Int)) = _
    rw [h.1, h.2, Int.mul_one, Int.mul_one]
  rw [e]
  exact rcompare_any _ _ W (by omega) (by omega)
/-- Least and Greatest, by what Compare answers. -/
theorem rleast_of (s t : ByteArray) (c : Int) (w : World) (CM : ∀ W, Calls Tryz.prog 72 #[.string t, .string s] W (GivesI c W)) : Calls Tryz.prog 69 #[.string s, .string t] w (GivesY (if c < 0 then t else s) w) := by
  replace CM := Lib.hid CM
  by_cases hc : c < 0
  · rw [if_pos hc]
    go_enter Tryz.func69, Tryz.ntmps69
    go_wp2_with fail
    refine (CM.out _).mono ?_
    rintro e w1 ⟨rfl, hb⟩
    have B1 := Lib.hid hb
    clear hb
    go_wp2
    go_ret
    exact ⟨rfl, B1.out⟩
  · rw [if_neg hc]
    go_enter Tryz.func69, Tryz.ntmps69
    go_wp2_with fail
    refine (CM.out _).mono ?_
    rintro e w1 ⟨rfl, hb⟩
    have B1 := Lib.hid hb
    clear hb
    go_wp2
    go_ret
    exact ⟨rfl, B1.out⟩
theorem rgreatest_of (s t : ByteArray) (c : Int) (w : World) (CM : ∀ W, Calls Tryz.prog 72 #[.string s, .string t] W (GivesI c W)) : Calls Tryz.prog 70 #[.string s, .string t] w (GivesY (if c < 0 then t else s) w) := by
  replace CM := Lib.hid CM
  by_cases hc : c < 0
  · rw [if_pos hc]
    go_enter Tryz.func70, Tryz.ntmps70
    go_wp2_with fail
    refine (CM.out _).mono ?_
    rintro e w1 ⟨rfl, hb⟩
    have B1 := Lib.hid hb
    clear hb
    go_wp2
    go_ret
    exact ⟨rfl, B1.out⟩
  · rw [if_neg hc]
    go_enter Tryz.func70, Tryz.ntmps70
    go_wp2_with fail
    refine (CM.out _).mono ?_
    rintro e w1 ⟨rfl, hb⟩
    have B1 := Lib.hid hb
    clear hb
    go_wp2
    go_ret
    exact ⟨rfl, B1.out⟩
end Go.Proofs.YtkhebidmfjbhaaaGreatDoor
namespace Go.Proofs.YtkhebidmfjbhaaaGreatDoor
open Go.RowKit

theorem oc_ge {a b : Rat} (h : b ≤ a) : ¬ oc a b < 0 := by
  unfold oc
  rw [if_neg (by grind)]
  split <;> omega
theorem oc_le {a b : Rat} (h : a ≤ b) : ¬ 0 < oc a b := by
  unfold oc
  split
  · omega
  · rw [if_neg (by grind)]
    omega
theorem ecmp_le {a b : Rat} (h : ecmp (some a) (some b) ≤ 0) : a ≤ b := by
  rcases q_lies a b with g | g | g
  · grind
  · grind
  · rw [ecmp_gt g] at h
    omega
theorem lowhigh {X Y : Rat} (hX : Sm 1000 X) (hY : Sm 1000 Y) : ∃ L H : Rat, L ≤ H ∧ (∀ k, Sm k X → Sm k Y → Sm k L ∧ Sm k H) ∧ (∀ W, Calls Tryz.prog 69 #[.string (qx X), .string (qx Y)] W (GivesY (qx L) W)) ∧ (∀ W, Calls Tryz.prog 70 #[.string (qx X), .string (qx Y)] W (GivesY (qx H) W)) := by
  have CL := fun W => rleast_of (qx X) (qx Y) _ W (fun W => RCompare_q W hY hX)
  have CG := fun W => rgreatest_of (qx X) (qx Y) _ W (fun W => RCompare_q W hX hY)
  rcases q_lies X Y with h | h | h
  · rw [ecmp_gt h] at CL
    rw [ecmp_lt h] at CG
    exact ⟨X, Y, by grind, fun k h1 h2 => ⟨h1, h2⟩, CL, CG⟩
  · subst h
    rw [ecmp_self] at CL CG
    exact ⟨X, X, by grind, fun k h1 h2 => ⟨h1, h2⟩, CL, CG⟩
  · rw [ecmp_lt h] at CL
    rw [ecmp_gt h] at CG
    exact ⟨Y, X, by grind, fun k h1 h2 => ⟨h2, h1⟩, CL, CG⟩
set_option maxHeartbeats 8000000 in
set_option maxRecDepth 100000 in
theorem simplest_law_any (a0 a1 : ByteArray) (b0 b1 : ByteArray) (c0 c1 : ByteArray) (w : World) (tb : Tb w) (ha0 : a0.size ≤ 9223372036854775807) (ha1 : a1.size ≤ 9223372036854775807) (hb0 : b0.size ≤ 9223372036854775807) (hb1 : b1.size ≤ 9223372036854775807) (hc0 : c0.size ≤ 9223372036854775807) (hc1 : c1.size ≤ 9223372036854775807) :
    Calls Tryz.prog 9 #[.agg #[.string a0, .string a1], .agg #[.string b0, .string b1], .agg #[.string c0, .string c1]] w fun e w' => e = .returned (.bool true) ∧ Below w.heap.size w w' := by
  go_enter Tryz.func9, Tryz.ntmps9
  go_wp2_with fail
  obtain ⟨W0, hW0⟩ : ∃ W0, W0 = (((w.alloc (.cells #[.string a0, .string a1] 56)).alloc (.cells #[.string b0, .string b1] 56)).alloc (.cells #[.string c0, .string c1] 56)) := ⟨_, rfl⟩
  have BW := Lib.hid (show Below w.heap.size w W0 from by rw [hW0]; exact (bel_alloc (bel_alloc (bel_alloc (Below.refl w.heap.size w)))))
  have X0 : Bx2 W0 (w.heap.size) a0 a1 := by rw [hW0]; exact (((Bx2.new w a0 a1 56 (w.heap.size) (by first | rfl | (simp; done) | (simp; omega))).below (alloc_below _ _)).below (alloc_below _ _))
  have X1 : Bx2 W0 (w.heap.size + 1) b0 b1 := by rw [hW0]; exact ((Bx2.new (w.alloc (.cells #[.string a0, .string a1] 56)) b0 b1 56 (w.heap.size + 1) (by first | rfl | (simp; done) | (simp; omega))).below (alloc_below _ _))
  have X2 : Bx2 W0 (w.heap.size + 1 + 1) c0 c1 := by rw [hW0]; exact (Bx2.new ((w.alloc (.cells #[.string a0, .string a1] 56)).alloc (.cells #[.string b0, .string b1] 56)) c0 c1 56 (w.heap.size + 1 + 1) (by first | rfl | (simp; done) | (simp; omega)))
  have KC := Lib.hid (show ∀ W, Below W0.heap.size W0 W → (W.cell? ⟨w.heap.size, 0, none⟩ = some (.string a0) ∧ W.cell? ⟨w.heap.size, 1, none⟩ = some (.string a1)) ∧ (W.cell? ⟨w.heap.size + 1, 0, none⟩ = some (.string b0) ∧ W.cell? ⟨w.heap.size + 1, 1, none⟩ = some (.string b1)) ∧ (W.cell? ⟨w.heap.size + 1 + 1, 0, none⟩ = some (.string c0) ∧ W.cell? ⟨w.heap.size + 1 + 1, 1, none⟩ = some (.string c1)) from fun W hb => ⟨⟨(X0.below hb).c0, (X0.below hb).c1⟩, ⟨(X1.below hb).c0, (X1.below hb).c1⟩, ⟨(X2.below hb).c0, (X2.below hb).c1⟩⟩)
  have Fa := Lib.hid (fun W => (show Calls Tryz.prog 65 #[.string a0, .string a1, .int .i64 30] W (fun e w' => ∃ q : Rat, Sm 30 q ∧ GivesY (qx q) W e w') from fit3_any a0 a1 30 W ha0 ha1 (by omega) (by omega)))
  have Fb := Lib.hid (fun W => (show Calls Tryz.prog 65 #[.string b0, .string b1, .int .i64 30] W (fun e w' => ∃ q : Rat, Sm 30 q ∧ GivesY (qx q) W e w') from fit3_any b0 b1 30 W hb0 hb1 (by omega) (by omega)))
  have Fc := Lib.hid (fun W => (show Calls Tryz.prog 65 #[.string c0, .string c1, .int .i64 30] W (fun e w' => ∃ q : Rat, Sm 30 q ∧ GivesY (qx q) W e w') from fit3_any c0 c1 30 W hc0 hc1 (by omega) (by omega)))
  rw [← hW0]
  clear hW0 X0 X1 X2
  have HB := Lib.hid (Below.refl W0.heap.size W0)
  go_upto_region 1 with fail
  go_cut [7, 8, 9] from 10 (fun xX xY xZ W => ∃ (X Y Z : Rat) (SX SY SZ : ByteArray), Sm 30 X ∧ SX = qx X ∧ xX = .string SX ∧ Sm 30 Y ∧ SY = qx Y ∧ xY = .string SY ∧ Sm 30 Z ∧ SZ = qx Z ∧ xZ = .string SZ ∧ Below W0.heap.size W0 W)
  case first =>
    go_region_held3 (fun W => (W.cell? ⟨w.heap.size, 0, none⟩ = some (.string a0) ∧ W.cell? ⟨w.heap.size, 1, none⟩ = some (.string a1)) ∧ (W.cell? ⟨w.heap.size + 1, 0, none⟩ = some (.string b0) ∧ W.cell? ⟨w.heap.size + 1, 1, none⟩ = some (.string b1)) ∧ (W.cell? ⟨w.heap.size + 1 + 1, 0, none⟩ = some (.string c0) ∧ W.cell? ⟨w.heap.size + 1 + 1, 1, none⟩ = some (.string c1))) (exact KC.out _ (by ((repeat (with_reducible apply bel_drew)); with_reducible exact HB.out))) (first | (go_at_call 65; refine armL (b := W0) (by ((repeat (with_reducible apply bel_drew)); with_reducible exact HB.out)) (by with_reducible exact Fa.out _) ?_; rintro e w1 ⟨⟨X, hX, rfl, hb1⟩, G⟩; obtain ⟨SX, hSX⟩ : ∃ s, s = qx X := ⟨_, rfl⟩; rw [← hSX]; have HSX := Lib.hid hSX; have HMX := Lib.hid hX; replace HB := Lib.hid (G.trans (hb1.mono G.size)); clear hSX hX hb1 G) | (go_at_call 65; refine armL (b := W0) (by ((repeat (with_reducible apply bel_drew)); with_reducible exact HB.out)) (by with_reducible exact Fb.out _) ?_; rintro e w1 ⟨⟨Y, hY, rfl, hb1⟩, G⟩; obtain ⟨SY, hSY⟩ : ∃ s, s = qx Y := ⟨_, rfl⟩; rw [← hSY]; have HSY := Lib.hid hSY; have HMY := Lib.hid hY; replace HB := Lib.hid (G.trans (hb1.mono G.size)); clear hSY hY hb1 G) | (go_at_call 65; refine armL (b := W0) (by ((repeat (with_reducible apply bel_drew)); with_reducible exact HB.out)) (by with_reducible exact Fc.out _) ?_; rintro e w1 ⟨⟨Z, hZ, rfl, hb1⟩, G⟩; obtain ⟨SZ, hSZ⟩ : ∃ s, s = qx Z := ⟨_, rfl⟩; rw [← hSZ]; have HSZ := Lib.hid hSZ; have HMZ := Lib.hid hZ; replace HB := Lib.hid (G.trans (hb1.mono G.size)); clear hSZ hZ hb1 G) | fail)
    all_goals (go_wp2_with fail; go_meet; case rel => exact ⟨X, Y, Z, SX, SY, SZ, HMX.out, HSX.out, rfl, HMY.out, HSY.out, rfl, HMZ.out, HSZ.out, rfl, (by ((repeat (with_reducible apply bel_drew)); with_reducible exact HB.out))⟩)
  case rest =>
    obtain ⟨X, Y, Z, SX, SY, SZ, hX, hSX, rfl, hY, hSY, rfl, hZ, hSZ, rfl, hB⟩ := hcut
    have B0 := Lib.hid (BW.out.trans (hB.mono BW.out.size))
    have T0 := Lib.hid (tb.below (BW.out.trans (hB.mono BW.out.size)))
    clear HB KC BW hB Fa Fb Fc ha0 ha1 hb0 hb1 hc0 hc1
    have AW := Lib.hid (fun W (tb : Tb W) => awake3_any W tb)
    have k (n : Nat) {a : Rat} (h : Sm n a) (hn : n ≤ 1000) : Sm 1000 a := h.mono hn
    obtain ⟨L, H, hLH, hsm, LE, GR⟩ := lowhigh (k _ hX (by omega)) (k _ hY (by omega))
    obtain ⟨hL, hH⟩ := hsm _ hX hY
    obtain ⟨i1, i2, i3⟩ := spl_in hLH
    obtain ⟨j1, j2, j3⟩ := spi_in L
    have hS := spl_sm hLH hL
    have hU := spi_sm (l := L) (by omega) hL
    obtain ⟨S, hSd⟩ : ∃ S, S = spl L H := ⟨_, rfl⟩
    obtain ⟨U, hUd⟩ : ∃ U, U = spi L := ⟨_, rfl⟩
    replace LE := Lib.hid LE
    replace GR := Lib.hid GR
    have SP := Lib.hid (fun W tb => Simplest_spl W tb hLH (k _ hL (by omega)) (k _ hH (by omega)))
    have SN := Lib.hid (fun W tb => Simplest_spl (l := -H) (h := -L) W tb (by grind) (k _ hH.neg (by omega)) (k _ hL.neg (by omega)))
    rw [spl_neg hLH] at SN
    have SI := Lib.hid (fun W tb => Simplest_spi W tb (k _ hL (by omega)))
    rw [← hSd] at i1 i2 i3 hS SP SN
    rw [← hUd] at j1 j2 j3 hU SI
    obtain ⟨n1, hn1⟩ : ∃ n, n = oc S L := ⟨_, rfl⟩
    obtain ⟨n2, hn2⟩ : ∃ n, n = oc S H := ⟨_, rfl⟩
    obtain ⟨n3, hn3⟩ : ∃ n, n = oc U L := ⟨_, rfl⟩
    obtain ⟨c1, hc1⟩ : ∃ n, n = ecmp (some L) (some Z) := ⟨_, rfl⟩
    obtain ⟨c2, hc2⟩ : ∃ n, n = ecmp (some Z) (some H) := ⟨_, rfl⟩
    have C1 := Lib.hid (fun W => Cmp_oc (a := S) (b := L) W (k _ hS (by omega)) (k _ hL (by omega)) hn1.symm)
    have C2 := Lib.hid (fun W => Cmp_oc (a := S) (b := H) W (k _ hS (by omega)) (k _ hH (by omega)) hn2.symm)
    have C3 := Lib.hid (fun W => Cmp_oc (a := U) (b := L) W (k _ hU (by omega)) (k _ hL (by omega)) hn3.symm)
    have R1 := Lib.hid (fun W => RCompare_q (a := L) (b := Z) W (k _ hL (by omega)) (k _ hZ (by omega)))
    have R2 := Lib.hid (fun W => RCompare_q (a := Z) (b := H) W (k _ hZ (by omega)) (k _ hH (by omega)))
    rw [← hc1] at R1
    rw [← hc2] at R2
    have Q1 := Lib.hid (fun W => simpler_no (a := L) (b := S) W (k _ hL (by omega)) (k _ hS (by omega)) (i3 L (by grind) hLH))
    have Q2 := Lib.hid (fun W => simpler_no (a := H) (b := S) W (k _ hH (by omega)) (k _ hS (by omega)) (i3 H hLH (by grind)))
    have Q3 : c1 ≤ 0 → c2 ≤ 0 → Hid (∀ W, Calls Tryz.prog 71 #[.string (qx Z), .string (qx S)] W fun e w' => e = .returned (.bool false) ∧ Below W.heap.size W w') := fun g1 g2 W => simpler_no (a := Z) (b := S) W (k _ hZ (by omega)) (k _ hS (by omega)) (i3 Z (ecmp_le (hc1 ▸ g1)) (ecmp_le (hc2 ▸ g2)))
    have N1 := Lib.hid (fun W => Neg_q H W (k _ hH (by omega)))
    have N2 := Lib.hid (fun W => Neg_q L W (k _ hL (by omega)))
    have N3 := Lib.hid (fun W => Neg_q S W (k _ hS (by omega)))
    have DE := Lib.hid (fun W => Den_q U W (k _ hU (by omega)))
    obtain ⟨D1, hD1⟩ : ∃ s, s = tx (U.den : Int) := ⟨_, rfl⟩
    have eD1 : (D1.toList == [49]) = true := by rw [hD1, j2]; exact (one_is 1).trans rfl
    rw [← hD1] at DE
    have f1 : ¬ n1 < 0 := by rw [hn1]; exact oc_ge i1
    have f2 : ¬ 0 < n2 := by rw [hn2]; exact oc_le i2
    have f3 : 0 ≤ n3 := by have := oc_ge j1; rw [hn3]; omega
    obtain ⟨SL, hSL⟩ : ∃ s, s = qx (L) := ⟨_, rfl⟩
    obtain ⟨SH, hSH⟩ : ∃ s, s = qx (H) := ⟨_, rfl⟩
    obtain ⟨SS, hSS⟩ : ∃ s, s = qx (S) := ⟨_, rfl⟩
    obtain ⟨SU, hSU⟩ : ∃ s, s = qx (U) := ⟨_, rfl⟩
    obtain ⟨NH, hNH⟩ : ∃ s, s = qx (-H) := ⟨_, rfl⟩
    obtain ⟨NL, hNL⟩ : ∃ s, s = qx (-L) := ⟨_, rfl⟩
    obtain ⟨NS, hNS⟩ : ∃ s, s = qx (-S) := ⟨_, rfl⟩
    rw [← hSL] at LE SP SI C1 C3 R1 Q1 N2
    rw [← hSH] at GR SP C2 R2 Q2 N1
    rw [← hSS] at SP C1 C2 Q1 Q2 Q3 N3
    rw [← hSU] at SI C3 DE
    rw [← hNH] at N1 SN
    rw [← hNL] at N2 SN
    rw [← hNS] at N3 SN
    rw [← hSX] at LE GR
    rw [← hSY] at LE GR
    rw [← hSZ] at R1 R2 Q3
    have IY := Lib.hid (fun W => is3_yes NS W)
    clear hSL hSH hSS hSU hNH hNL hNS hSX hSY hSZ hX hY hZ hL hH hS hU hLH hsm hSd hUd i1 i2 i3 j1 j2 j3 hn1 hn2 hn3 hc1 hc2 hD1 k
    go_wp2_with fail
    (with_reducible refine Calls.mono (LE.out _) ?_)
    rintro e w1 ⟨rfl, hb⟩
    have B1 := Lib.hid (B0.out.trans (hb.mono B0.out.size))
    have T1 := Lib.hid (T0.out.below hb)
    clear hb
    go_wp2_with fail
    (with_reducible refine Calls.mono (GR.out _) ?_)
    rintro e w2 ⟨rfl, hb⟩
    have B2 := Lib.hid (B1.out.trans (hb.mono B1.out.size))
    have T2 := Lib.hid (T1.out.below hb)
    clear hb
    go_wp2_with fail
    (with_reducible refine Calls.mono (SP.out _ T2.out) ?_)
    rintro e w3 ⟨rfl, hb⟩
    have B3 := Lib.hid (B2.out.trans (hb.mono B2.out.size))
    have T3 := Lib.hid (T2.out.below hb)
    clear hb
    go_wp2_with fail
    (with_reducible refine Calls.mono (C1.out _) ?_)
    rintro e w4 ⟨rfl, hb⟩
    have B4 := Lib.hid (B3.out.trans (hb.mono B3.out.size))
    have T4 := Lib.hid (T3.out.below hb)
    clear hb
    go_wp2_with fail
    (with_reducible refine Calls.mono (C2.out _) ?_)
    rintro e w5 ⟨rfl, hb⟩
    have B5 := Lib.hid (B4.out.trans (hb.mono B4.out.size))
    have T5 := Lib.hid (T4.out.below hb)
    clear hb
    go_wp2_with fail
    (with_reducible refine Calls.mono (Q1.out _) ?_)
    rintro e w6 ⟨rfl, hb⟩
    have B6 := Lib.hid (B5.out.trans (hb.mono B5.out.size))
    have T6 := Lib.hid (T5.out.below hb)
    clear hb
    go_wp2_with fail
    (with_reducible refine Calls.mono (Q2.out _) ?_)
    rintro e w7 ⟨rfl, hb⟩
    have B7 := Lib.hid (B6.out.trans (hb.mono B6.out.size))
    have T7 := Lib.hid (T6.out.below hb)
    clear hb
    go_wp2_with fail
    (with_reducible refine Calls.mono (R1.out _) ?_)
    rintro e w8 ⟨rfl, hb⟩
    have B8 := Lib.hid (B7.out.trans (hb.mono B7.out.size))
    have T8 := Lib.hid (T7.out.below hb)
    clear hb
    by_cases g1 : c1 ≤ 0
    · go_wp2_with fail
      (with_reducible refine Calls.mono (R2.out _) ?_)
      rintro e w9 ⟨rfl, hb⟩
      have B9 := Lib.hid (B8.out.trans (hb.mono B8.out.size))
      have T9 := Lib.hid (T8.out.below hb)
      clear hb
      by_cases g2 : c2 ≤ 0
      · have Q3 := Q3 g1 g2
        go_wp2_with fail
        (with_reducible refine Calls.mono (Q3.out _) ?_)
        rintro e w10 ⟨rfl, hb⟩
        have B10 := Lib.hid (B9.out.trans (hb.mono B9.out.size))
        have T10 := Lib.hid (T9.out.below hb)
        clear hb
        go_wp2_with fail
        (with_reducible refine Calls.mono (N1.out _) ?_)
        rintro e w11 ⟨rfl, hb⟩
        have B11 := Lib.hid (B10.out.trans (hb.mono B10.out.size))
        have T11 := Lib.hid (T10.out.below hb)
        clear hb
        go_wp2_with fail
        (with_reducible refine Calls.mono (N2.out _) ?_)
        rintro e w12 ⟨rfl, hb⟩
        have B12 := Lib.hid (B11.out.trans (hb.mono B11.out.size))
        have T12 := Lib.hid (T11.out.below hb)
        clear hb
        go_wp2_with fail
        (with_reducible refine Calls.mono (SN.out _ T12.out) ?_)
        rintro e w13 ⟨rfl, hb⟩
        have B13 := Lib.hid (B12.out.trans (hb.mono B12.out.size))
        have T13 := Lib.hid (T12.out.below hb)
        clear hb
        go_wp2_with fail
        (with_reducible refine Calls.mono (SI.out _ T13.out) ?_)
        rintro e w14 ⟨rfl, hb⟩
        have B14 := Lib.hid (B13.out.trans (hb.mono B13.out.size))
        have T14 := Lib.hid (T13.out.below hb)
        clear hb
        go_wp2_with fail
        (with_reducible refine Calls.mono (N3.out _) ?_)
        rintro e w15 ⟨rfl, hb⟩
        have B15 := Lib.hid (B14.out.trans (hb.mono B14.out.size))
        have T15 := Lib.hid (T14.out.below hb)
        clear hb
        go_wp2_with fail
        (with_reducible refine Calls.mono (IY.out _) ?_)
        rintro e w' ⟨rfl, rfl⟩
        go_wp2_with fail
        (with_reducible refine Calls.mono (DE.out _) ?_)
        rintro e w16 ⟨rfl, hb⟩
        have B16 := Lib.hid (B15.out.trans (hb.mono B15.out.size))
        have T16 := Lib.hid (T15.out.below hb)
        clear hb
        go_wp2_with fail
        (with_reducible refine Calls.mono (C3.out _) ?_)
        rintro e w17 ⟨rfl, hb⟩
        have B17 := Lib.hid (B16.out.trans (hb.mono B16.out.size))
        have T17 := Lib.hid (T16.out.below hb)
        clear hb
        go_wp2_with fail
        (with_reducible refine Calls.mono (AW.out _ T17.out) ?_)
        rintro e w18 ⟨rfl, hb⟩
        have B18 := Lib.hid (B17.out.trans (hb.mono B17.out.size))
        have T18 := Lib.hid (T17.out.below hb)
        clear hb
        go_wp2
        go_ret
        exact ⟨rfl, B18.out⟩
      · clear Q3
        go_wp2_with fail
        (with_reducible refine Calls.mono (N1.out _) ?_)
        rintro e w10 ⟨rfl, hb⟩
        have B10 := Lib.hid (B9.out.trans (hb.mono B9.out.size))
        have T10 := Lib.hid (T9.out.below hb)
        clear hb
        go_wp2_with fail
        (with_reducible refine Calls.mono (N2.out _) ?_)
        rintro e w11 ⟨rfl, hb⟩
        have B11 := Lib.hid (B10.out.trans (hb.mono B10.out.size))
        have T11 := Lib.hid (T10.out.below hb)
        clear hb
        go_wp2_with fail
        (with_reducible refine Calls.mono (SN.out _ T11.out) ?_)
        rintro e w12 ⟨rfl, hb⟩
        have B12 := Lib.hid (B11.out.trans (hb.mono B11.out.size))
        have T12 := Lib.hid (T11.out.below hb)
        clear hb
        go_wp2_with fail
        (with_reducible refine Calls.mono (SI.out _ T12.out) ?_)
        rintro e w13 ⟨rfl, hb⟩
        have B13 := Lib.hid (B12.out.trans (hb.mono B12.out.size))
        have T13 := Lib.hid (T12.out.below hb)
        clear hb
        go_wp2_with fail
        (with_reducible refine Calls.mono (N3.out _) ?_)
        rintro e w14 ⟨rfl, hb⟩
        have B14 := Lib.hid (B13.out.trans (hb.mono B13.out.size))
        have T14 := Lib.hid (T13.out.below hb)
        clear hb
        go_wp2_with fail
        (with_reducible refine Calls.mono (IY.out _) ?_)
        rintro e w' ⟨rfl, rfl⟩
        go_wp2_with fail
        (with_reducible refine Calls.mono (DE.out _) ?_)
        rintro e w15 ⟨rfl, hb⟩
        have B15 := Lib.hid (B14.out.trans (hb.mono B14.out.size))
        have T15 := Lib.hid (T14.out.below hb)
        clear hb
        go_wp2_with fail
        (with_reducible refine Calls.mono (C3.out _) ?_)
        rintro e w16 ⟨rfl, hb⟩
        have B16 := Lib.hid (B15.out.trans (hb.mono B15.out.size))
        have T16 := Lib.hid (T15.out.below hb)
        clear hb
        go_wp2_with fail
        (with_reducible refine Calls.mono (AW.out _ T16.out) ?_)
        rintro e w17 ⟨rfl, hb⟩
        have B17 := Lib.hid (B16.out.trans (hb.mono B16.out.size))
        have T17 := Lib.hid (T16.out.below hb)
        clear hb
        go_wp2
        go_ret
        exact ⟨rfl, B17.out⟩
    · clear Q3
      go_wp2_with fail
      (with_reducible refine Calls.mono (N1.out _) ?_)
      rintro e w9 ⟨rfl, hb⟩
      have B9 := Lib.hid (B8.out.trans (hb.mono B8.out.size))
      have T9 := Lib.hid (T8.out.below hb)
      clear hb
      go_wp2_with fail
      (with_reducible refine Calls.mono (N2.out _) ?_)
      rintro e w10 ⟨rfl, hb⟩
      have B10 := Lib.hid (B9.out.trans (hb.mono B9.out.size))
      have T10 := Lib.hid (T9.out.below hb)
      clear hb
      go_wp2_with fail
      (with_reducible refine Calls.mono (SN.out _ T10.out) ?_)
      rintro e w11 ⟨rfl, hb⟩
      have B11 := Lib.hid (B10.out.trans (hb.mono B10.out.size))
      have T11 := Lib.hid (T10.out.below hb)
      clear hb
      go_wp2_with fail
      (with_reducible refine Calls.mono (SI.out _ T11.out) ?_)
      rintro e w12 ⟨rfl, hb⟩
      have B12 := Lib.hid (B11.out.trans (hb.mono B11.out.size))
      have T12 := Lib.hid (T11.out.below hb)
      clear hb
      go_wp2_with fail
      (with_reducible refine Calls.mono (N3.out _) ?_)
      rintro e w13 ⟨rfl, hb⟩
      have B13 := Lib.hid (B12.out.trans (hb.mono B12.out.size))
      have T13 := Lib.hid (T12.out.below hb)
      clear hb
      go_wp2_with fail
      (with_reducible refine Calls.mono (IY.out _) ?_)
      rintro e w' ⟨rfl, rfl⟩
      go_wp2_with fail
      (with_reducible refine Calls.mono (DE.out _) ?_)
      rintro e w14 ⟨rfl, hb⟩
      have B14 := Lib.hid (B13.out.trans (hb.mono B13.out.size))
      have T14 := Lib.hid (T13.out.below hb)
      clear hb
      go_wp2_with fail
      (with_reducible refine Calls.mono (C3.out _) ?_)
      rintro e w15 ⟨rfl, hb⟩
      have B15 := Lib.hid (B14.out.trans (hb.mono B14.out.size))
      have T15 := Lib.hid (T14.out.below hb)
      clear hb
      go_wp2_with fail
      (with_reducible refine Calls.mono (AW.out _ T15.out) ?_)
      rintro e w16 ⟨rfl, hb⟩
      have B16 := Lib.hid (B15.out.trans (hb.mono B15.out.size))
      have T16 := Lib.hid (T15.out.below hb)
      clear hb
      go_wp2
      go_ret
      exact ⟨rfl, B16.out⟩
end Go.Proofs.YtkhebidmfjbhaaaGreatDoor
