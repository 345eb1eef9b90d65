/-
  What number.plus returns.
  What number.negative, less and times return.
-/
import Derived.Test.YtphbfjcaehiboaaGreatDoorZe
import Derived.Deep.RegionHeld3
namespace Go.Proofs.YtphbfjcaehiboaaGreatDoor
open Go.RowKit

theorem signed_true (u : Value) (x : Int) (w : World) (hu : NatV w u x) : Calls Tryz.prog 69 #[.agg #[u], .bool true] w (GivesZ (-x) w) := by have := signed_any u true x w hu; rwa [if_pos rfl] at this
theorem signed_false (u : Value) (x : Int) (w : World) (hu : NatV w u x) : Calls Tryz.prog 69 #[.agg #[u], .bool false] w (GivesZ x w) := by have := signed_any u false x w hu; rwa [if_neg (by decide)] at this
theorem far2 {w : World} {r k o : Nat} {a b : Value} (h : k ≠ r) : ((w.setCell ⟨r, 0, none⟩ a).setCell ⟨r, 1, none⟩ b).cell? ⟨k, o, none⟩ = w.cell? ⟨k, o, none⟩ := by
  rw [World.cell?_setCell_other _ _ _ _ (by intro e; injection e; omega), World.cell?_setCell_other _ _ _ _ (by intro e; injection e; omega)]

set_option maxHeartbeats 1000000 in
theorem plus_ff (u v : Value) (x y : Int) (w : World) (hu : NatV w u x) (hv : NatV w v y) (hx : nl x ≤ 50000) (hy : nl y ≤ 50000) :
    Calls Tryz.prog 49 #[.agg #[u, .bool false], .agg #[v, .bool false]] w (GivesZ (x + y) w) := by
  have HU := Lib.hid hu
  have HV := Lib.hid hv
  obtain ⟨a, n, rfl, hn, _, hx0, _, _⟩ := hu.form
  obtain ⟨c, m, rfl, hm, _, hy0, _, _⟩ := hv.form
  have HN := Lib.hid hn
  have HM := Lib.hid hm
  obtain ⟨W0, hW0⟩ : ∃ W0, W0 = ((w.alloc (.cells #[.slice a n n, .bool false] 66)).alloc (.cells #[.slice c m m, .bool false] 66)).alloc (.cells #[.slice none 0 0, .bool false] 66) := ⟨_, rfl⟩
  have hbx := box3 w (.slice a n n) false (.slice c m m) false 66
  rw [← hW0] at hbx
  have BX := Lib.hid hbx
  obtain ⟨z0, hb0, c00, c01, c10, c11, s0⟩ := hbx
  have hop := fun W (h : Below w.heap.size w W) => sum_any _ _ x y W (HU.out.below h) (HV.out.below h) hx hy
  have OP := Lib.hid hop
  have hre : x + y = x + y := by rfl
  rw [hre]
  have Z0 := Lib.hid z0
  clear hu hv hn hm hb0 s0 hop hre
  go_enter Tryz.func49, Tryz.ntmps49
  go_wp2
  rw [← hW0]
  clear hW0
  obtain ⟨W1, hW1⟩ : ∃ W1, W1 = W0 := ⟨_, rfl⟩
  rw [← hW1] at c00 c01 c10 c11 ⊢
  have hs1 : W0.heap.size ≤ W1.heap.size := by rw [hW1]; exact Nat.le_refl _
  have d00 := c00
  have d01 := c01
  have d10 := c10
  have d11 := c11
  have S1 : Hid (Res W1 (w.heap.size + 1 + 1)) := by rw [hW1]; exact BX.out.res
  have B1 : Hid (Below w.heap.size w W1) := by rw [hW1]; exact BX.out.below
  clear hW1 c00 c01 c10 c11 BX
  have hw1 : w.heap.size + 1 + 1 < W1.heap.size := by omega
  have D01 := Lib.hid d01
  have D11 := Lib.hid d11
  have D00 := Lib.hid d00
  have D10 := Lib.hid d10
  go_region_held3 (fun W => W.cell? ⟨w.heap.size, 0, none⟩ = some (.slice a n n) ∧ W.cell? ⟨w.heap.size, 1, none⟩ = some (.bool false) ∧ W.cell? ⟨w.heap.size + 1, 0, none⟩ = some (.slice c m m) ∧ W.cell? ⟨w.heap.size + 1, 1, none⟩ = some (.bool false)) (first | exact ⟨D00.out, D01.out, D10.out, D11.out⟩ | exact ⟨E00.out, E01.out, E10.out, E11.out⟩ | exact ⟨F00.out, F01.out, F10.out, F11.out⟩ | exact ⟨(far2 (by omega)).trans F00.out, (far2 (by omega)).trans F01.out, (far2 (by omega)).trans F10.out, (far2 (by omega)).trans F11.out⟩) (first | (go_at_call 82; refine (OP.out _ (by exact B1.out.drew)).mono ?_; rintro e w5 ⟨s5, rfl, hs5, hb5⟩; replace hb5 := below_undrew hb5; have z5 : W1.heap.size ≤ w5.heap.size := hb5.size; have E00 := Lib.hid ((below_at hb5 0 (show w.heap.size < W1.heap.size by omega)).trans D00.out); have E01 := Lib.hid ((below_at hb5 1 (show w.heap.size < W1.heap.size by omega)).trans D01.out); have E10 := Lib.hid ((below_at hb5 0 (show w.heap.size + 1 < W1.heap.size by omega)).trans D10.out); have E11 := Lib.hid ((below_at hb5 1 (show w.heap.size + 1 < W1.heap.size by omega)).trans D11.out); have H5 := Lib.hid hs5; have S5 := Lib.hid (S1.out.below (B := W1.heap.size) hb5 (by omega)); have B5 := Lib.hid (B1.out.trans (show Below w.heap.size W1 w5 from hb5.mono (show w.heap.size ≤ W1.heap.size by omega))); clear hs5 hb5) | (go_at_call 69; refine (signed_false _ (x + y) w5 H5.out).mono ?_; rintro e w6 ⟨v6, rfl, hv6, hb6⟩; obtain ⟨s6, hs6⟩ : ∃ s6, s6 = decide (x + y < 0) := ⟨_, rfl⟩; rw [← hs6]; have HS6 := Lib.hid hs6; clear hs6; obtain ⟨q0, q1, q2, q3⟩ := S5.out.below hb6 (by omega); have F00 := Lib.hid ((below_at hb6 0 (show w.heap.size < w5.heap.size by omega)).trans E00.out); have F01 := Lib.hid ((below_at hb6 1 (show w.heap.size < w5.heap.size by omega)).trans E01.out); have F10 := Lib.hid ((below_at hb6 0 (show w.heap.size + 1 < w5.heap.size by omega)).trans E10.out); have F11 := Lib.hid ((below_at hb6 1 (show w.heap.size + 1 < w5.heap.size by omega)).trans E11.out); have H6 := Lib.hid hv6; have B6 := Lib.hid (B5.out.trans (hb6.mono (by omega))); obtain ⟨a6, n6, rfl, hn6, _, _, _, _⟩ := hv6.form; have HN6 := Lib.hid hn6; clear hv6 hb6 hn6))
  all_goals
    go_wp2
    exact bodyPost_ret (v := .agg #[.slice a6 n6 n6, .bool s6]) (by simp [results, Tryz.results49, go_sem, q0, q1]) rfl ⟨_, by rw [HS6.out], storeN H6.out q0 q1 _ _, below_set (below_set B6.out 0 (by omega) _) 1 (by omega) _⟩
set_option maxHeartbeats 1000000 in
theorem plus_tt (u v : Value) (x y : Int) (w : World) (hu : NatV w u x) (hv : NatV w v y) (hx : nl x ≤ 50000) (hy : nl y ≤ 50000) :
    Calls Tryz.prog 49 #[.agg #[u, .bool true], .agg #[v, .bool true]] w (GivesZ (-(x + y)) w) := by
  have HU := Lib.hid hu
  have HV := Lib.hid hv
  obtain ⟨a, n, rfl, hn, _, hx0, _, _⟩ := hu.form
  obtain ⟨c, m, rfl, hm, _, hy0, _, _⟩ := hv.form
  have HN := Lib.hid hn
  have HM := Lib.hid hm
  obtain ⟨W0, hW0⟩ : ∃ W0, W0 = ((w.alloc (.cells #[.slice a n n, .bool true] 66)).alloc (.cells #[.slice c m m, .bool true] 66)).alloc (.cells #[.slice none 0 0, .bool false] 66) := ⟨_, rfl⟩
  have hbx := box3 w (.slice a n n) true (.slice c m m) true 66
  rw [← hW0] at hbx
  have BX := Lib.hid hbx
  obtain ⟨z0, hb0, c00, c01, c10, c11, s0⟩ := hbx
  have hop := fun W (h : Below w.heap.size w W) => sum_any _ _ x y W (HU.out.below h) (HV.out.below h) hx hy
  have OP := Lib.hid hop
  have hre : -(x + y) = -(x + y) := by rfl
  rw [hre]
  have Z0 := Lib.hid z0
  clear hu hv hn hm hb0 s0 hop hre
  go_enter Tryz.func49, Tryz.ntmps49
  go_wp2
  rw [← hW0]
  clear hW0
  obtain ⟨W1, hW1⟩ : ∃ W1, W1 = W0 := ⟨_, rfl⟩
  rw [← hW1] at c00 c01 c10 c11 ⊢
  have hs1 : W0.heap.size ≤ W1.heap.size := by rw [hW1]; exact Nat.le_refl _
  have d00 := c00
  have d01 := c01
  have d10 := c10
  have d11 := c11
  have S1 : Hid (Res W1 (w.heap.size + 1 + 1)) := by rw [hW1]; exact BX.out.res
  have B1 : Hid (Below w.heap.size w W1) := by rw [hW1]; exact BX.out.below
  clear hW1 c00 c01 c10 c11 BX
  have hw1 : w.heap.size + 1 + 1 < W1.heap.size := by omega
  have D01 := Lib.hid d01
  have D11 := Lib.hid d11
  have D00 := Lib.hid d00
  have D10 := Lib.hid d10
  go_region_held3 (fun W => W.cell? ⟨w.heap.size, 0, none⟩ = some (.slice a n n) ∧ W.cell? ⟨w.heap.size, 1, none⟩ = some (.bool true) ∧ W.cell? ⟨w.heap.size + 1, 0, none⟩ = some (.slice c m m) ∧ W.cell? ⟨w.heap.size + 1, 1, none⟩ = some (.bool true)) (first | exact ⟨D00.out, D01.out, D10.out, D11.out⟩ | exact ⟨E00.out, E01.out, E10.out, E11.out⟩ | exact ⟨F00.out, F01.out, F10.out, F11.out⟩ | exact ⟨(far2 (by omega)).trans F00.out, (far2 (by omega)).trans F01.out, (far2 (by omega)).trans F10.out, (far2 (by omega)).trans F11.out⟩) (first | (go_at_call 82; refine (OP.out _ (by exact B1.out.drew)).mono ?_; rintro e w5 ⟨s5, rfl, hs5, hb5⟩; replace hb5 := below_undrew hb5; have z5 : W1.heap.size ≤ w5.heap.size := hb5.size; have E00 := Lib.hid ((below_at hb5 0 (show w.heap.size < W1.heap.size by omega)).trans D00.out); have E01 := Lib.hid ((below_at hb5 1 (show w.heap.size < W1.heap.size by omega)).trans D01.out); have E10 := Lib.hid ((below_at hb5 0 (show w.heap.size + 1 < W1.heap.size by omega)).trans D10.out); have E11 := Lib.hid ((below_at hb5 1 (show w.heap.size + 1 < W1.heap.size by omega)).trans D11.out); have H5 := Lib.hid hs5; have S5 := Lib.hid (S1.out.below (B := W1.heap.size) hb5 (by omega)); have B5 := Lib.hid (B1.out.trans (show Below w.heap.size W1 w5 from hb5.mono (show w.heap.size ≤ W1.heap.size by omega))); clear hs5 hb5) | (go_at_call 69; refine (signed_true _ (x + y) w5 H5.out).mono ?_; rintro e w6 ⟨v6, rfl, hv6, hb6⟩; obtain ⟨s6, hs6⟩ : ∃ s6, s6 = decide (-(x + y) < 0) := ⟨_, rfl⟩; rw [← hs6]; have HS6 := Lib.hid hs6; clear hs6; obtain ⟨q0, q1, q2, q3⟩ := S5.out.below hb6 (by omega); have F00 := Lib.hid ((below_at hb6 0 (show w.heap.size < w5.heap.size by omega)).trans E00.out); have F01 := Lib.hid ((below_at hb6 1 (show w.heap.size < w5.heap.size by omega)).trans E01.out); have F10 := Lib.hid ((below_at hb6 0 (show w.heap.size + 1 < w5.heap.size by omega)).trans E10.out); have F11 := Lib.hid ((below_at hb6 1 (show w.heap.size + 1 < w5.heap.size by omega)).trans E11.out); have H6 := Lib.hid hv6; have B6 := Lib.hid (B5.out.trans (hb6.mono (by omega))); obtain ⟨a6, n6, rfl, hn6, _, _, _, _⟩ := hv6.form; have HN6 := Lib.hid hn6; clear hv6 hb6 hn6))
  all_goals
    go_wp2
    exact bodyPost_ret (v := .agg #[.slice a6 n6 n6, .bool s6]) (by simp [results, Tryz.results49, go_sem, q0, q1]) rfl ⟨_, by rw [HS6.out], storeN H6.out q0 q1 _ _, below_set (below_set B6.out 0 (by omega) _) 1 (by omega) _⟩
set_option maxHeartbeats 1000000 in
theorem plus_ft1 (u v : Value) (x y : Int) (w : World) (hu : NatV w u x) (hv : NatV w v y)  (hc : y ≤ x) :
    Calls Tryz.prog 49 #[.agg #[u, .bool false], .agg #[v, .bool true]] w (GivesZ (x - y) w) := by
  have HU := Lib.hid hu
  have HV := Lib.hid hv
  obtain ⟨a, n, rfl, hn, _, hx0, _, _⟩ := hu.form
  obtain ⟨c, m, rfl, hm, _, hy0, _, _⟩ := hv.form
  have HN := Lib.hid hn
  have HM := Lib.hid hm
  obtain ⟨W0, hW0⟩ : ∃ W0, W0 = ((w.alloc (.cells #[.slice a n n, .bool false] 66)).alloc (.cells #[.slice c m m, .bool true] 66)).alloc (.cells #[.slice none 0 0, .bool false] 66) := ⟨_, rfl⟩
  have hbx := box3 w (.slice a n n) false (.slice c m m) true 66
  rw [← hW0] at hbx
  have BX := Lib.hid hbx
  obtain ⟨z0, hb0, c00, c01, c10, c11, s0⟩ := hbx
  have hop := fun W (h : Below w.heap.size w W) => difference_any _ _ x y W (HU.out.below h) (HV.out.below h) hc
  have OP := Lib.hid hop
  have hre : x - y = x - y := by rfl
  rw [hre]
  have Z0 := Lib.hid z0
  have hcm := fun W (h : Below w.heap.size w W) => compare_any _ _ x y W (HU.out.below h) (HV.out.below h)
  have hct : 0 ≤ cmp3 x y := by unfold cmp3; rw [if_neg (by omega)]; split <;> omega
  have CM := Lib.hid hcm
  clear hcm
  clear hu hv hn hm hb0 s0 hop hre
  go_enter Tryz.func49, Tryz.ntmps49
  go_wp2_with fail
  rw [← hW0]
  clear hW0
  refine (CM.out _ BX.out.below).mono ?_
  rintro e W1 ⟨rfl, hb1⟩
  have hs1 := hb1.size
  have d00 := (below_at hb1 0 (show w.heap.size < W0.heap.size by omega)).trans c00
  have d01 := (below_at hb1 1 (show w.heap.size < W0.heap.size by omega)).trans c01
  have d10 := (below_at hb1 0 (show w.heap.size + 1 < W0.heap.size by omega)).trans c10
  have d11 := (below_at hb1 1 (show w.heap.size + 1 < W0.heap.size by omega)).trans c11
  have S1 := Lib.hid (BX.out.res.below hb1 (by omega))
  have B1 := Lib.hid (BX.out.below.trans (hb1.mono (show w.heap.size ≤ W0.heap.size by omega)))
  clear hb1 c00 c01 c10 c11 BX
  go_wp2
  have hw1 : w.heap.size + 1 + 1 < W1.heap.size := by omega
  have D01 := Lib.hid d01
  have D11 := Lib.hid d11
  have D00 := Lib.hid d00
  have D10 := Lib.hid d10
  go_region_held3 (fun W => W.cell? ⟨w.heap.size, 0, none⟩ = some (.slice a n n) ∧ W.cell? ⟨w.heap.size, 1, none⟩ = some (.bool false) ∧ W.cell? ⟨w.heap.size + 1, 0, none⟩ = some (.slice c m m) ∧ W.cell? ⟨w.heap.size + 1, 1, none⟩ = some (.bool true)) (first | exact ⟨D00.out, D01.out, D10.out, D11.out⟩ | exact ⟨E00.out, E01.out, E10.out, E11.out⟩ | exact ⟨F00.out, F01.out, F10.out, F11.out⟩ | exact ⟨(far2 (by omega)).trans F00.out, (far2 (by omega)).trans F01.out, (far2 (by omega)).trans F10.out, (far2 (by omega)).trans F11.out⟩) (first | (go_at_call 84; refine (OP.out _ (by exact B1.out.drew)).mono ?_; rintro e w5 ⟨s5, rfl, hs5, hb5⟩; replace hb5 := below_undrew hb5; have z5 : W1.heap.size ≤ w5.heap.size := hb5.size; have E00 := Lib.hid ((below_at hb5 0 (show w.heap.size < W1.heap.size by omega)).trans D00.out); have E01 := Lib.hid ((below_at hb5 1 (show w.heap.size < W1.heap.size by omega)).trans D01.out); have E10 := Lib.hid ((below_at hb5 0 (show w.heap.size + 1 < W1.heap.size by omega)).trans D10.out); have E11 := Lib.hid ((below_at hb5 1 (show w.heap.size + 1 < W1.heap.size by omega)).trans D11.out); have H5 := Lib.hid hs5; have S5 := Lib.hid (S1.out.below (B := W1.heap.size) hb5 (by omega)); have B5 := Lib.hid (B1.out.trans (show Below w.heap.size W1 w5 from hb5.mono (show w.heap.size ≤ W1.heap.size by omega))); clear hs5 hb5) | (go_at_call 69; refine (signed_false _ (x - y) w5 H5.out).mono ?_; rintro e w6 ⟨v6, rfl, hv6, hb6⟩; obtain ⟨s6, hs6⟩ : ∃ s6, s6 = decide (x - y < 0) := ⟨_, rfl⟩; rw [← hs6]; have HS6 := Lib.hid hs6; clear hs6; obtain ⟨q0, q1, q2, q3⟩ := S5.out.below hb6 (by omega); have F00 := Lib.hid ((below_at hb6 0 (show w.heap.size < w5.heap.size by omega)).trans E00.out); have F01 := Lib.hid ((below_at hb6 1 (show w.heap.size < w5.heap.size by omega)).trans E01.out); have F10 := Lib.hid ((below_at hb6 0 (show w.heap.size + 1 < w5.heap.size by omega)).trans E10.out); have F11 := Lib.hid ((below_at hb6 1 (show w.heap.size + 1 < w5.heap.size by omega)).trans E11.out); have H6 := Lib.hid hv6; have B6 := Lib.hid (B5.out.trans (hb6.mono (by omega))); obtain ⟨a6, n6, rfl, hn6, _, _, _, _⟩ := hv6.form; have HN6 := Lib.hid hn6; clear hv6 hb6 hn6))
  all_goals
    go_wp2
    exact bodyPost_ret (v := .agg #[.slice a6 n6 n6, .bool s6]) (by simp [results, Tryz.results49, go_sem, q0, q1]) rfl ⟨_, by rw [HS6.out], storeN H6.out q0 q1 _ _, below_set (below_set B6.out 0 (by omega) _) 1 (by omega) _⟩
set_option maxHeartbeats 1000000 in
theorem plus_ft2 (u v : Value) (x y : Int) (w : World) (hu : NatV w u x) (hv : NatV w v y)  (hc : x < y) :
    Calls Tryz.prog 49 #[.agg #[u, .bool false], .agg #[v, .bool true]] w (GivesZ (x - y) w) := by
  have HU := Lib.hid hu
  have HV := Lib.hid hv
  obtain ⟨a, n, rfl, hn, _, hx0, _, _⟩ := hu.form
  obtain ⟨c, m, rfl, hm, _, hy0, _, _⟩ := hv.form
  have HN := Lib.hid hn
  have HM := Lib.hid hm
  obtain ⟨W0, hW0⟩ : ∃ W0, W0 = ((w.alloc (.cells #[.slice a n n, .bool false] 66)).alloc (.cells #[.slice c m m, .bool true] 66)).alloc (.cells #[.slice none 0 0, .bool false] 66) := ⟨_, rfl⟩
  have hbx := box3 w (.slice a n n) false (.slice c m m) true 66
  rw [← hW0] at hbx
  have BX := Lib.hid hbx
  obtain ⟨z0, hb0, c00, c01, c10, c11, s0⟩ := hbx
  have hop := fun W (h : Below w.heap.size w W) => difference_any _ _ y x W (HV.out.below h) (HU.out.below h) (Int.le_of_lt hc)
  have OP := Lib.hid hop
  have hre : x - y = -(y - x) := by omega
  rw [hre]
  have Z0 := Lib.hid z0
  have hcm := fun W (h : Below w.heap.size w W) => compare_any _ _ x y W (HU.out.below h) (HV.out.below h)
  have hct : cmp3 x y < 0 := by rw [cmp3_lt hc]; omega
  have CM := Lib.hid hcm
  clear hcm
  clear hu hv hn hm hb0 s0 hop hre
  go_enter Tryz.func49, Tryz.ntmps49
  go_wp2_with fail
  rw [← hW0]
  clear hW0
  refine (CM.out _ BX.out.below).mono ?_
  rintro e W1 ⟨rfl, hb1⟩
  have hs1 := hb1.size
  have d00 := (below_at hb1 0 (show w.heap.size < W0.heap.size by omega)).trans c00
  have d01 := (below_at hb1 1 (show w.heap.size < W0.heap.size by omega)).trans c01
  have d10 := (below_at hb1 0 (show w.heap.size + 1 < W0.heap.size by omega)).trans c10
  have d11 := (below_at hb1 1 (show w.heap.size + 1 < W0.heap.size by omega)).trans c11
  have S1 := Lib.hid (BX.out.res.below hb1 (by omega))
  have B1 := Lib.hid (BX.out.below.trans (hb1.mono (show w.heap.size ≤ W0.heap.size by omega)))
  clear hb1 c00 c01 c10 c11 BX
  go_wp2
  have hw1 : w.heap.size + 1 + 1 < W1.heap.size := by omega
  have D01 := Lib.hid d01
  have D11 := Lib.hid d11
  have D00 := Lib.hid d00
  have D10 := Lib.hid d10
  go_region_held3 (fun W => W.cell? ⟨w.heap.size, 0, none⟩ = some (.slice a n n) ∧ W.cell? ⟨w.heap.size, 1, none⟩ = some (.bool false) ∧ W.cell? ⟨w.heap.size + 1, 0, none⟩ = some (.slice c m m) ∧ W.cell? ⟨w.heap.size + 1, 1, none⟩ = some (.bool true)) (first | exact ⟨D00.out, D01.out, D10.out, D11.out⟩ | exact ⟨E00.out, E01.out, E10.out, E11.out⟩ | exact ⟨F00.out, F01.out, F10.out, F11.out⟩ | exact ⟨(far2 (by omega)).trans F00.out, (far2 (by omega)).trans F01.out, (far2 (by omega)).trans F10.out, (far2 (by omega)).trans F11.out⟩) (first | (go_at_call 84; refine (OP.out _ (by exact B1.out.drew)).mono ?_; rintro e w5 ⟨s5, rfl, hs5, hb5⟩; replace hb5 := below_undrew hb5; have z5 : W1.heap.size ≤ w5.heap.size := hb5.size; have E00 := Lib.hid ((below_at hb5 0 (show w.heap.size < W1.heap.size by omega)).trans D00.out); have E01 := Lib.hid ((below_at hb5 1 (show w.heap.size < W1.heap.size by omega)).trans D01.out); have E10 := Lib.hid ((below_at hb5 0 (show w.heap.size + 1 < W1.heap.size by omega)).trans D10.out); have E11 := Lib.hid ((below_at hb5 1 (show w.heap.size + 1 < W1.heap.size by omega)).trans D11.out); have H5 := Lib.hid hs5; have S5 := Lib.hid (S1.out.below (B := W1.heap.size) hb5 (by omega)); have B5 := Lib.hid (B1.out.trans (show Below w.heap.size W1 w5 from hb5.mono (show w.heap.size ≤ W1.heap.size by omega))); clear hs5 hb5) | (go_at_call 69; refine (signed_true _ (y - x) w5 H5.out).mono ?_; rintro e w6 ⟨v6, rfl, hv6, hb6⟩; obtain ⟨s6, hs6⟩ : ∃ s6, s6 = decide (-(y - x) < 0) := ⟨_, rfl⟩; rw [← hs6]; have HS6 := Lib.hid hs6; clear hs6; obtain ⟨q0, q1, q2, q3⟩ := S5.out.below hb6 (by omega); have F00 := Lib.hid ((below_at hb6 0 (show w.heap.size < w5.heap.size by omega)).trans E00.out); have F01 := Lib.hid ((below_at hb6 1 (show w.heap.size < w5.heap.size by omega)).trans E01.out); have F10 := Lib.hid ((below_at hb6 0 (show w.heap.size + 1 < w5.heap.size by omega)).trans E10.out); have F11 := Lib.hid ((below_at hb6 1 (show w.heap.size + 1 < w5.heap.size by omega)).trans E11.out); have H6 := Lib.hid hv6; have B6 := Lib.hid (B5.out.trans (hb6.mono (by omega))); obtain ⟨a6, n6, rfl, hn6, _, _, _, _⟩ := hv6.form; have HN6 := Lib.hid hn6; clear hv6 hb6 hn6))
  all_goals
    go_wp2
    exact bodyPost_ret (v := .agg #[.slice a6 n6 n6, .bool s6]) (by simp [results, Tryz.results49, go_sem, q0, q1]) rfl ⟨_, by rw [HS6.out], storeN H6.out q0 q1 _ _, below_set (below_set B6.out 0 (by omega) _) 1 (by omega) _⟩
set_option maxHeartbeats 1000000 in
theorem plus_tf1 (u v : Value) (x y : Int) (w : World) (hu : NatV w u x) (hv : NatV w v y)  (hc : y ≤ x) :
    Calls Tryz.prog 49 #[.agg #[u, .bool true], .agg #[v, .bool false]] w (GivesZ (y - x) w) := by
  have HU := Lib.hid hu
  have HV := Lib.hid hv
  obtain ⟨a, n, rfl, hn, _, hx0, _, _⟩ := hu.form
  obtain ⟨c, m, rfl, hm, _, hy0, _, _⟩ := hv.form
  have HN := Lib.hid hn
  have HM := Lib.hid hm
  obtain ⟨W0, hW0⟩ : ∃ W0, W0 = ((w.alloc (.cells #[.slice a n n, .bool true] 66)).alloc (.cells #[.slice c m m, .bool false] 66)).alloc (.cells #[.slice none 0 0, .bool false] 66) := ⟨_, rfl⟩
  have hbx := box3 w (.slice a n n) true (.slice c m m) false 66
  rw [← hW0] at hbx
  have BX := Lib.hid hbx
  obtain ⟨z0, hb0, c00, c01, c10, c11, s0⟩ := hbx
  have hop := fun W (h : Below w.heap.size w W) => difference_any _ _ x y W (HU.out.below h) (HV.out.below h) hc
  have OP := Lib.hid hop
  have hre : y - x = -(x - y) := by omega
  rw [hre]
  have Z0 := Lib.hid z0
  have hcm := fun W (h : Below w.heap.size w W) => compare_any _ _ x y W (HU.out.below h) (HV.out.below h)
  have hct : 0 ≤ cmp3 x y := by unfold cmp3; rw [if_neg (by omega)]; split <;> omega
  have CM := Lib.hid hcm
  clear hcm
  clear hu hv hn hm hb0 s0 hop hre
  go_enter Tryz.func49, Tryz.ntmps49
  go_wp2_with fail
  rw [← hW0]
  clear hW0
  refine (CM.out _ BX.out.below).mono ?_
  rintro e W1 ⟨rfl, hb1⟩
  have hs1 := hb1.size
  have d00 := (below_at hb1 0 (show w.heap.size < W0.heap.size by omega)).trans c00
  have d01 := (below_at hb1 1 (show w.heap.size < W0.heap.size by omega)).trans c01
  have d10 := (below_at hb1 0 (show w.heap.size + 1 < W0.heap.size by omega)).trans c10
  have d11 := (below_at hb1 1 (show w.heap.size + 1 < W0.heap.size by omega)).trans c11
  have S1 := Lib.hid (BX.out.res.below hb1 (by omega))
  have B1 := Lib.hid (BX.out.below.trans (hb1.mono (show w.heap.size ≤ W0.heap.size by omega)))
  clear hb1 c00 c01 c10 c11 BX
  go_wp2
  have hw1 : w.heap.size + 1 + 1 < W1.heap.size := by omega
  have D01 := Lib.hid d01
  have D11 := Lib.hid d11
  have D00 := Lib.hid d00
  have D10 := Lib.hid d10
  go_region_held3 (fun W => W.cell? ⟨w.heap.size, 0, none⟩ = some (.slice a n n) ∧ W.cell? ⟨w.heap.size, 1, none⟩ = some (.bool true) ∧ W.cell? ⟨w.heap.size + 1, 0, none⟩ = some (.slice c m m) ∧ W.cell? ⟨w.heap.size + 1, 1, none⟩ = some (.bool false)) (first | exact ⟨D00.out, D01.out, D10.out, D11.out⟩ | exact ⟨E00.out, E01.out, E10.out, E11.out⟩ | exact ⟨F00.out, F01.out, F10.out, F11.out⟩ | exact ⟨(far2 (by omega)).trans F00.out, (far2 (by omega)).trans F01.out, (far2 (by omega)).trans F10.out, (far2 (by omega)).trans F11.out⟩) (first | (go_at_call 84; refine (OP.out _ (by exact B1.out.drew)).mono ?_; rintro e w5 ⟨s5, rfl, hs5, hb5⟩; replace hb5 := below_undrew hb5; have z5 : W1.heap.size ≤ w5.heap.size := hb5.size; have E00 := Lib.hid ((below_at hb5 0 (show w.heap.size < W1.heap.size by omega)).trans D00.out); have E01 := Lib.hid ((below_at hb5 1 (show w.heap.size < W1.heap.size by omega)).trans D01.out); have E10 := Lib.hid ((below_at hb5 0 (show w.heap.size + 1 < W1.heap.size by omega)).trans D10.out); have E11 := Lib.hid ((below_at hb5 1 (show w.heap.size + 1 < W1.heap.size by omega)).trans D11.out); have H5 := Lib.hid hs5; have S5 := Lib.hid (S1.out.below (B := W1.heap.size) hb5 (by omega)); have B5 := Lib.hid (B1.out.trans (show Below w.heap.size W1 w5 from hb5.mono (show w.heap.size ≤ W1.heap.size by omega))); clear hs5 hb5) | (go_at_call 69; refine (signed_true _ (x - y) w5 H5.out).mono ?_; rintro e w6 ⟨v6, rfl, hv6, hb6⟩; obtain ⟨s6, hs6⟩ : ∃ s6, s6 = decide (-(x - y) < 0) := ⟨_, rfl⟩; rw [← hs6]; have HS6 := Lib.hid hs6; clear hs6; obtain ⟨q0, q1, q2, q3⟩ := S5.out.below hb6 (by omega); have F00 := Lib.hid ((below_at hb6 0 (show w.heap.size < w5.heap.size by omega)).trans E00.out); have F01 := Lib.hid ((below_at hb6 1 (show w.heap.size < w5.heap.size by omega)).trans E01.out); have F10 := Lib.hid ((below_at hb6 0 (show w.heap.size + 1 < w5.heap.size by omega)).trans E10.out); have F11 := Lib.hid ((below_at hb6 1 (show w.heap.size + 1 < w5.heap.size by omega)).trans E11.out); have H6 := Lib.hid hv6; have B6 := Lib.hid (B5.out.trans (hb6.mono (by omega))); obtain ⟨a6, n6, rfl, hn6, _, _, _, _⟩ := hv6.form; have HN6 := Lib.hid hn6; clear hv6 hb6 hn6))
  all_goals
    go_wp2
    exact bodyPost_ret (v := .agg #[.slice a6 n6 n6, .bool s6]) (by simp [results, Tryz.results49, go_sem, q0, q1]) rfl ⟨_, by rw [HS6.out], storeN H6.out q0 q1 _ _, below_set (below_set B6.out 0 (by omega) _) 1 (by omega) _⟩
set_option maxHeartbeats 1000000 in
theorem plus_tf2 (u v : Value) (x y : Int) (w : World) (hu : NatV w u x) (hv : NatV w v y)  (hc : x < y) :
    Calls Tryz.prog 49 #[.agg #[u, .bool true], .agg #[v, .bool false]] w (GivesZ (y - x) w) := by
  have HU := Lib.hid hu
  have HV := Lib.hid hv
  obtain ⟨a, n, rfl, hn, _, hx0, _, _⟩ := hu.form
  obtain ⟨c, m, rfl, hm, _, hy0, _, _⟩ := hv.form
  have HN := Lib.hid hn
  have HM := Lib.hid hm
  obtain ⟨W0, hW0⟩ : ∃ W0, W0 = ((w.alloc (.cells #[.slice a n n, .bool true] 66)).alloc (.cells #[.slice c m m, .bool false] 66)).alloc (.cells #[.slice none 0 0, .bool false] 66) := ⟨_, rfl⟩
  have hbx := box3 w (.slice a n n) true (.slice c m m) false 66
  rw [← hW0] at hbx
  have BX := Lib.hid hbx
  obtain ⟨z0, hb0, c00, c01, c10, c11, s0⟩ := hbx
  have hop := fun W (h : Below w.heap.size w W) => difference_any _ _ y x W (HV.out.below h) (HU.out.below h) (Int.le_of_lt hc)
  have OP := Lib.hid hop
  have hre : y - x = y - x := by rfl
  rw [hre]
  have Z0 := Lib.hid z0
  have hcm := fun W (h : Below w.heap.size w W) => compare_any _ _ x y W (HU.out.below h) (HV.out.below h)
  have hct : cmp3 x y < 0 := by rw [cmp3_lt hc]; omega
  have CM := Lib.hid hcm
  clear hcm
  clear hu hv hn hm hb0 s0 hop hre
  go_enter Tryz.func49, Tryz.ntmps49
  go_wp2_with fail
  rw [← hW0]
  clear hW0
  refine (CM.out _ BX.out.below).mono ?_
  rintro e W1 ⟨rfl, hb1⟩
  have hs1 := hb1.size
  have d00 := (below_at hb1 0 (show w.heap.size < W0.heap.size by omega)).trans c00
  have d01 := (below_at hb1 1 (show w.heap.size < W0.heap.size by omega)).trans c01
  have d10 := (below_at hb1 0 (show w.heap.size + 1 < W0.heap.size by omega)).trans c10
  have d11 := (below_at hb1 1 (show w.heap.size + 1 < W0.heap.size by omega)).trans c11
  have S1 := Lib.hid (BX.out.res.below hb1 (by omega))
  have B1 := Lib.hid (BX.out.below.trans (hb1.mono (show w.heap.size ≤ W0.heap.size by omega)))
  clear hb1 c00 c01 c10 c11 BX
  go_wp2
  have hw1 : w.heap.size + 1 + 1 < W1.heap.size := by omega
  have D01 := Lib.hid d01
  have D11 := Lib.hid d11
  have D00 := Lib.hid d00
  have D10 := Lib.hid d10
  go_region_held3 (fun W => W.cell? ⟨w.heap.size, 0, none⟩ = some (.slice a n n) ∧ W.cell? ⟨w.heap.size, 1, none⟩ = some (.bool true) ∧ W.cell? ⟨w.heap.size + 1, 0, none⟩ = some (.slice c m m) ∧ W.cell? ⟨w.heap.size + 1, 1, none⟩ = some (.bool false)) (first | exact ⟨D00.out, D01.out, D10.out, D11.out⟩ | exact ⟨E00.out, E01.out, E10.out, E11.out⟩ | exact ⟨F00.out, F01.out, F10.out, F11.out⟩ | exact ⟨(far2 (by omega)).trans F00.out, (far2 (by omega)).trans F01.out, (far2 (by omega)).trans F10.out, (far2 (by omega)).trans F11.out⟩) (first | (go_at_call 84; refine (OP.out _ (by exact B1.out.drew)).mono ?_; rintro e w5 ⟨s5, rfl, hs5, hb5⟩; replace hb5 := below_undrew hb5; have z5 : W1.heap.size ≤ w5.heap.size := hb5.size; have E00 := Lib.hid ((below_at hb5 0 (show w.heap.size < W1.heap.size by omega)).trans D00.out); have E01 := Lib.hid ((below_at hb5 1 (show w.heap.size < W1.heap.size by omega)).trans D01.out); have E10 := Lib.hid ((below_at hb5 0 (show w.heap.size + 1 < W1.heap.size by omega)).trans D10.out); have E11 := Lib.hid ((below_at hb5 1 (show w.heap.size + 1 < W1.heap.size by omega)).trans D11.out); have H5 := Lib.hid hs5; have S5 := Lib.hid (S1.out.below (B := W1.heap.size) hb5 (by omega)); have B5 := Lib.hid (B1.out.trans (show Below w.heap.size W1 w5 from hb5.mono (show w.heap.size ≤ W1.heap.size by omega))); clear hs5 hb5) | (go_at_call 69; refine (signed_false _ (y - x) w5 H5.out).mono ?_; rintro e w6 ⟨v6, rfl, hv6, hb6⟩; obtain ⟨s6, hs6⟩ : ∃ s6, s6 = decide (y - x < 0) := ⟨_, rfl⟩; rw [← hs6]; have HS6 := Lib.hid hs6; clear hs6; obtain ⟨q0, q1, q2, q3⟩ := S5.out.below hb6 (by omega); have F00 := Lib.hid ((below_at hb6 0 (show w.heap.size < w5.heap.size by omega)).trans E00.out); have F01 := Lib.hid ((below_at hb6 1 (show w.heap.size < w5.heap.size by omega)).trans E01.out); have F10 := Lib.hid ((below_at hb6 0 (show w.heap.size + 1 < w5.heap.size by omega)).trans E10.out); have F11 := Lib.hid ((below_at hb6 1 (show w.heap.size + 1 < w5.heap.size by omega)).trans E11.out); have H6 := Lib.hid hv6; have B6 := Lib.hid (B5.out.trans (hb6.mono (by omega))); obtain ⟨a6, n6, rfl, hn6, _, _, _, _⟩ := hv6.form; have HN6 := Lib.hid hn6; clear hv6 hb6 hn6))
  all_goals
    go_wp2
    exact bodyPost_ret (v := .agg #[.slice a6 n6 n6, .bool s6]) (by simp [results, Tryz.results49, go_sem, q0, q1]) rfl ⟨_, by rw [HS6.out], storeN H6.out q0 q1 _ _, below_set (below_set B6.out 0 (by omega) _) 1 (by omega) _⟩
/-- The boolean sign of z. -/
def sgn (z : Int) : Bool := decide (z < 0)
theorem plus_any (u v : Value) (x y : Int) (w : World) (hu : NatV w u x.natAbs) (hv : NatV w v y.natAbs) (hx : nl x.natAbs ≤ 50000) (hy : nl y.natAbs ≤ 50000) :
    Calls Tryz.prog 49 #[.agg #[u, .bool (decide (x < 0))], .agg #[v, .bool (decide (y < 0))]] w (GivesZ (x + y) w) := by
  by_cases h1 : x < 0 <;> by_cases h2 : y < 0
  · rw [decide_eq_true h1, decide_eq_true h2]
    have := plus_tt u v x.natAbs y.natAbs w hu hv hx hy
    rwa [show -((x.natAbs : Int) + (y.natAbs : Int)) = x + y by omega] at this
  · rw [decide_eq_true h1, decide_eq_false h2]
    rcases Int.lt_or_le (x.natAbs : Int) (y.natAbs : Int) with h | h
    · have := plus_tf2 u v x.natAbs y.natAbs w hu hv h
      rwa [show (y.natAbs : Int) - (x.natAbs : Int) = x + y by omega] at this
    · have := plus_tf1 u v x.natAbs y.natAbs w hu hv h
      rwa [show (y.natAbs : Int) - (x.natAbs : Int) = x + y by omega] at this
  · rw [decide_eq_false h1, decide_eq_true h2]
    rcases Int.lt_or_le (x.natAbs : Int) (y.natAbs : Int) with h | h
    · have := plus_ft2 u v x.natAbs y.natAbs w hu hv h
      rwa [show (x.natAbs : Int) - (y.natAbs : Int) = x + y by omega] at this
    · have := plus_ft1 u v x.natAbs y.natAbs w hu hv h
      rwa [show (x.natAbs : Int) - (y.natAbs : Int) = x + y by omega] at this
  · rw [decide_eq_false h1, decide_eq_false h2]
    have := plus_ff u v x.natAbs y.natAbs w hu hv hx hy
    rwa [show (x.natAbs : Int) + (y.natAbs : Int) = x + y by omega] at this
end Go.Proofs.YtphbfjcaehiboaaGreatDoor
namespace Go.Proofs.YtphbfjcaehiboaaGreatDoor
open Go.RowKit

theorem negative_false (u : Value) (x : Int) (w : World) (hu : NatV w u x) :
    Calls Tryz.prog 88 #[.agg #[u, .bool false]] w (GivesZ (-x) w) := by
  have HU := Lib.hid hu
  obtain ⟨a, n, rfl, hn, _, hx0, _, _⟩ := hu.form
  have HN := Lib.hid hn
  obtain ⟨W0, hW0⟩ : ∃ W0, W0 = (w.alloc (.cells #[.slice a n n, .bool false] 66)).alloc (.cells #[.slice none 0 0, .bool false] 66) := ⟨_, rfl⟩
  have hb0 : Below w.heap.size w W0 := by rw [hW0]; exact ((Below.refl w.heap.size w).alloc (Nat.le_refl _) _).alloc (by simp) _
  have s0 : Res W0 (w.heap.size + 1) := by rw [hW0]; exact Res.new _ _ _ (by simp)
  have z0 : W0.heap.size = w.heap.size + 1 + 1 := by rw [hW0]; simp
  have B0 := Lib.hid hb0
  have S0 := Lib.hid s0
  have hsg := signed_true _ x W0 (HU.out.below hb0)
  have SG := Lib.hid hsg
  clear hu hn hb0 s0 hsg
  go_enter Tryz.func88, Tryz.ntmps88
  go_wp2_with fail
  rw [← hW0]
  clear hW0
  refine SG.out.mono ?_
  rintro e w6 ⟨v6, rfl, hv6, hb6⟩
  obtain ⟨s6, hs6⟩ : ∃ s6, s6 = decide (-x < 0) := ⟨_, rfl⟩
  rw [← hs6]
  have HS6 := Lib.hid hs6
  obtain ⟨q0, q1, q2, q3⟩ := S0.out.below hb6 (by omega)
  have H6 := Lib.hid hv6
  have B6 := Lib.hid (B0.out.trans (hb6.mono (by omega)))
  obtain ⟨a6, n6, rfl, hn6, _, _, _, _⟩ := hv6.form
  have HN6 := Lib.hid hn6
  clear hv6 hb6 hn6 hs6
  go_wp2
  exact bodyPost_ret (v := .agg #[.slice a6 n6 n6, .bool s6]) (by simp [results, Tryz.results88, go_sem, q0, q1]) rfl ⟨_, by rw [HS6.out], storeN H6.out q0 q1 _ _, below_set (below_set B6.out 0 (by omega) _) 1 (by omega) _⟩
theorem negative_true (u : Value) (x : Int) (w : World) (hu : NatV w u x) :
    Calls Tryz.prog 88 #[.agg #[u, .bool true]] w (GivesZ (x) w) := by
  have HU := Lib.hid hu
  obtain ⟨a, n, rfl, hn, _, hx0, _, _⟩ := hu.form
  have HN := Lib.hid hn
  obtain ⟨W0, hW0⟩ : ∃ W0, W0 = (w.alloc (.cells #[.slice a n n, .bool true] 66)).alloc (.cells #[.slice none 0 0, .bool false] 66) := ⟨_, rfl⟩
  have hb0 : Below w.heap.size w W0 := by rw [hW0]; exact ((Below.refl w.heap.size w).alloc (Nat.le_refl _) _).alloc (by simp) _
  have s0 : Res W0 (w.heap.size + 1) := by rw [hW0]; exact Res.new _ _ _ (by simp)
  have z0 : W0.heap.size = w.heap.size + 1 + 1 := by rw [hW0]; simp
  have B0 := Lib.hid hb0
  have S0 := Lib.hid s0
  have hsg := signed_false _ x W0 (HU.out.below hb0)
  have SG := Lib.hid hsg
  clear hu hn hb0 s0 hsg
  go_enter Tryz.func88, Tryz.ntmps88
  go_wp2_with fail
  rw [← hW0]
  clear hW0
  refine SG.out.mono ?_
  rintro e w6 ⟨v6, rfl, hv6, hb6⟩
  obtain ⟨s6, hs6⟩ : ∃ s6, s6 = decide (x < 0) := ⟨_, rfl⟩
  rw [← hs6]
  have HS6 := Lib.hid hs6
  obtain ⟨q0, q1, q2, q3⟩ := S0.out.below hb6 (by omega)
  have H6 := Lib.hid hv6
  have B6 := Lib.hid (B0.out.trans (hb6.mono (by omega)))
  obtain ⟨a6, n6, rfl, hn6, _, _, _, _⟩ := hv6.form
  have HN6 := Lib.hid hn6
  clear hv6 hb6 hn6 hs6
  go_wp2
  exact bodyPost_ret (v := .agg #[.slice a6 n6 n6, .bool s6]) (by simp [results, Tryz.results88, go_sem, q0, q1]) rfl ⟨_, by rw [HS6.out], storeN H6.out q0 q1 _ _, below_set (below_set B6.out 0 (by omega) _) 1 (by omega) _⟩
theorem negative_any (u : Value) (z : Int) (w : World) (hu : NatV w u z.natAbs) :
    Calls Tryz.prog 88 #[.agg #[u, .bool (decide (z < 0))]] w (GivesZ (-z) w) := by
  by_cases h : z < 0
  · rw [decide_eq_true h, show -z = (z.natAbs : Int) by omega]; exact negative_true u _ w hu
  · rw [decide_eq_false h, show -z = -(z.natAbs : Int) by omega]; exact negative_false u _ w hu

set_option maxHeartbeats 1000000 in
set_option maxRecDepth 100000 in
theorem times_ff (u v : Value) (x y : Int) (w : World) (hu : NatV w u x) (hv : NatV w v y) (hx : nl x ≤ 40000) (hy : nl y ≤ 40000) :
    Calls Tryz.prog 54 #[.agg #[u, .bool false], .agg #[v, .bool false]] w (GivesZ (x * y) w) := by
  have HU := Lib.hid hu
  have HV := Lib.hid hv
  obtain ⟨a, n, rfl, hn, _, hx0, _, _⟩ := hu.form
  obtain ⟨c, m, rfl, hm, _, hy0, _, _⟩ := hv.form
  have HN := Lib.hid hn
  have HM := Lib.hid hm
  have hop := fun W (h : Below w.heap.size w W) => product_any _ _ x y W (HU.out.below h) (HV.out.below h) hx hy
  have OP := Lib.hid hop
  clear hop
  obtain ⟨W1, hW1⟩ : ∃ W1, W1 = ((w.alloc (.cells #[.slice a n n, .bool false] 66)).alloc (.cells #[.slice c m m, .bool false] 66)).alloc (.cells #[.slice none 0 0, .bool false] 66) := ⟨_, rfl⟩
  have hbx := box3 w (.slice a n n) false (.slice c m m) false 66
  rw [← hW1] at hbx
  obtain ⟨z0, hb0, d00, d01, d10, d11, s0⟩ := hbx
  have B1 := Lib.hid hb0
  have S1 := Lib.hid s0
  have D00 := Lib.hid d00
  have D01 := Lib.hid d01
  have D10 := Lib.hid d10
  have D11 := Lib.hid d11
  have hw1 : w.heap.size + 1 + 1 < W1.heap.size := by omega
  clear hu hv hn hm hb0 s0
  go_enter Tryz.func54, Tryz.ntmps54
  go_wp2
  rw [← hW1]
  clear hW1
  go_region_held3 (fun W => W.cell? ⟨w.heap.size, 0, none⟩ = some (.slice a n n) ∧ W.cell? ⟨w.heap.size, 1, none⟩ = some (.bool false) ∧ W.cell? ⟨w.heap.size + 1, 0, none⟩ = some (.slice c m m) ∧ W.cell? ⟨w.heap.size + 1, 1, none⟩ = some (.bool false)) (first | exact ⟨D00.out, D01.out, D10.out, D11.out⟩ | exact ⟨E00.out, E01.out, E10.out, E11.out⟩ | exact ⟨F00.out, F01.out, F10.out, F11.out⟩ | exact ⟨(far2 (by omega)).trans F00.out, (far2 (by omega)).trans F01.out, (far2 (by omega)).trans F10.out, (far2 (by omega)).trans F11.out⟩) (first | (go_at_call 89; refine (OP.out _ (by exact B1.out.drew)).mono ?_; rintro e w5 ⟨s5, rfl, hs5, hb5⟩; replace hb5 := below_undrew hb5; have z5 : W1.heap.size ≤ w5.heap.size := hb5.size; have E00 := Lib.hid ((below_at hb5 0 (show w.heap.size < W1.heap.size by omega)).trans D00.out); have E01 := Lib.hid ((below_at hb5 1 (show w.heap.size < W1.heap.size by omega)).trans D01.out); have E10 := Lib.hid ((below_at hb5 0 (show w.heap.size + 1 < W1.heap.size by omega)).trans D10.out); have E11 := Lib.hid ((below_at hb5 1 (show w.heap.size + 1 < W1.heap.size by omega)).trans D11.out); have H5 := Lib.hid hs5; have S5 := Lib.hid (S1.out.below (B := W1.heap.size) hb5 (by omega)); have B5 := Lib.hid (B1.out.trans (show Below w.heap.size W1 w5 from hb5.mono (show w.heap.size ≤ W1.heap.size by omega))); have K5 := Lib.hid hb5; clear hs5 hb5) | (go_at_call 69; refine (signed_false _ (x * y) w5 H5.out).mono ?_; rintro e w6 ⟨v6, rfl, hv6, hb6⟩; obtain ⟨s6, hs6⟩ : ∃ s6, s6 = decide (x * y < 0) := ⟨_, rfl⟩; rw [← hs6]; have HS6 := Lib.hid hs6; clear hs6; obtain ⟨q0, q1, q2, q3⟩ := S5.out.below hb6 (by omega); have F00 := Lib.hid ((below_at hb6 0 (show w.heap.size < w5.heap.size by omega)).trans E00.out); have F01 := Lib.hid ((below_at hb6 1 (show w.heap.size < w5.heap.size by omega)).trans E01.out); have F10 := Lib.hid ((below_at hb6 0 (show w.heap.size + 1 < w5.heap.size by omega)).trans E10.out); have F11 := Lib.hid ((below_at hb6 1 (show w.heap.size + 1 < w5.heap.size by omega)).trans E11.out); have H6 := Lib.hid hv6; have B6 := Lib.hid (B5.out.trans (hb6.mono (by omega))); obtain ⟨a6, n6, rfl, hn6, _, _, _, _⟩ := hv6.form; have HN6 := Lib.hid hn6; clear hv6 hb6 hn6))
  all_goals
    go_wp2
    exact bodyPost_ret (v := .agg #[.slice a6 n6 n6, .bool s6]) (by simp [results, Tryz.results54, go_sem, q0, q1]) rfl ⟨_, by rw [HS6.out], storeN H6.out q0 q1 _ _, below_set (below_set B6.out 0 (by omega) _) 1 (by omega) _⟩
set_option maxHeartbeats 1000000 in
set_option maxRecDepth 100000 in
theorem times_ft (u v : Value) (x y : Int) (w : World) (hu : NatV w u x) (hv : NatV w v y) (hx : nl x ≤ 40000) (hy : nl y ≤ 40000) :
    Calls Tryz.prog 54 #[.agg #[u, .bool false], .agg #[v, .bool true]] w (GivesZ (-(x * y)) w) := by
  have HU := Lib.hid hu
  have HV := Lib.hid hv
  obtain ⟨a, n, rfl, hn, _, hx0, _, _⟩ := hu.form
  obtain ⟨c, m, rfl, hm, _, hy0, _, _⟩ := hv.form
  have HN := Lib.hid hn
  have HM := Lib.hid hm
  have hop := fun W (h : Below w.heap.size w W) => product_any _ _ x y W (HU.out.below h) (HV.out.below h) hx hy
  have OP := Lib.hid hop
  clear hop
  obtain ⟨W1, hW1⟩ : ∃ W1, W1 = ((w.alloc (.cells #[.slice a n n, .bool false] 66)).alloc (.cells #[.slice c m m, .bool true] 66)).alloc (.cells #[.slice none 0 0, .bool false] 66) := ⟨_, rfl⟩
  have hbx := box3 w (.slice a n n) false (.slice c m m) true 66
  rw [← hW1] at hbx
  obtain ⟨z0, hb0, d00, d01, d10, d11, s0⟩ := hbx
  have B1 := Lib.hid hb0
  have S1 := Lib.hid s0
  have D00 := Lib.hid d00
  have D01 := Lib.hid d01
  have D10 := Lib.hid d10
  have D11 := Lib.hid d11
  have hw1 : w.heap.size + 1 + 1 < W1.heap.size := by omega
  clear hu hv hn hm hb0 s0
  go_enter Tryz.func54, Tryz.ntmps54
  go_wp2
  rw [← hW1]
  clear hW1
  go_region_held3 (fun W => W.cell? ⟨w.heap.size, 0, none⟩ = some (.slice a n n) ∧ W.cell? ⟨w.heap.size, 1, none⟩ = some (.bool false) ∧ W.cell? ⟨w.heap.size + 1, 0, none⟩ = some (.slice c m m) ∧ W.cell? ⟨w.heap.size + 1, 1, none⟩ = some (.bool true)) (first | exact ⟨D00.out, D01.out, D10.out, D11.out⟩ | exact ⟨E00.out, E01.out, E10.out, E11.out⟩ | exact ⟨F00.out, F01.out, F10.out, F11.out⟩ | exact ⟨(far2 (by omega)).trans F00.out, (far2 (by omega)).trans F01.out, (far2 (by omega)).trans F10.out, (far2 (by omega)).trans F11.out⟩) (first | (go_at_call 89; refine (OP.out _ (by exact B1.out.drew)).mono ?_; rintro e w5 ⟨s5, rfl, hs5, hb5⟩; replace hb5 := below_undrew hb5; have z5 : W1.heap.size ≤ w5.heap.size := hb5.size; have E00 := Lib.hid ((below_at hb5 0 (show w.heap.size < W1.heap.size by omega)).trans D00.out); have E01 := Lib.hid ((below_at hb5 1 (show w.heap.size < W1.heap.size by omega)).trans D01.out); have E10 := Lib.hid ((below_at hb5 0 (show w.heap.size + 1 < W1.heap.size by omega)).trans D10.out); have E11 := Lib.hid ((below_at hb5 1 (show w.heap.size + 1 < W1.heap.size by omega)).trans D11.out); have H5 := Lib.hid hs5; have S5 := Lib.hid (S1.out.below (B := W1.heap.size) hb5 (by omega)); have B5 := Lib.hid (B1.out.trans (show Below w.heap.size W1 w5 from hb5.mono (show w.heap.size ≤ W1.heap.size by omega))); have K5 := Lib.hid hb5; clear hs5 hb5) | (go_at_call 69; refine (signed_true _ (x * y) w5 H5.out).mono ?_; rintro e w6 ⟨v6, rfl, hv6, hb6⟩; obtain ⟨s6, hs6⟩ : ∃ s6, s6 = decide (-(x * y) < 0) := ⟨_, rfl⟩; rw [← hs6]; have HS6 := Lib.hid hs6; clear hs6; obtain ⟨q0, q1, q2, q3⟩ := S5.out.below hb6 (by omega); have F00 := Lib.hid ((below_at hb6 0 (show w.heap.size < w5.heap.size by omega)).trans E00.out); have F01 := Lib.hid ((below_at hb6 1 (show w.heap.size < w5.heap.size by omega)).trans E01.out); have F10 := Lib.hid ((below_at hb6 0 (show w.heap.size + 1 < w5.heap.size by omega)).trans E10.out); have F11 := Lib.hid ((below_at hb6 1 (show w.heap.size + 1 < w5.heap.size by omega)).trans E11.out); have H6 := Lib.hid hv6; have B6 := Lib.hid (B5.out.trans (hb6.mono (by omega))); obtain ⟨a6, n6, rfl, hn6, _, _, _, _⟩ := hv6.form; have HN6 := Lib.hid hn6; clear hv6 hb6 hn6))
  all_goals
    go_wp2
    exact bodyPost_ret (v := .agg #[.slice a6 n6 n6, .bool s6]) (by simp [results, Tryz.results54, go_sem, q0, q1]) rfl ⟨_, by rw [HS6.out], storeN H6.out q0 q1 _ _, below_set (below_set B6.out 0 (by omega) _) 1 (by omega) _⟩
set_option maxHeartbeats 1000000 in
set_option maxRecDepth 100000 in
theorem times_tf (u v : Value) (x y : Int) (w : World) (hu : NatV w u x) (hv : NatV w v y) (hx : nl x ≤ 40000) (hy : nl y ≤ 40000) :
    Calls Tryz.prog 54 #[.agg #[u, .bool true], .agg #[v, .bool false]] w (GivesZ (-(x * y)) w) := by
  have HU := Lib.hid hu
  have HV := Lib.hid hv
  obtain ⟨a, n, rfl, hn, _, hx0, _, _⟩ := hu.form
  obtain ⟨c, m, rfl, hm, _, hy0, _, _⟩ := hv.form
  have HN := Lib.hid hn
  have HM := Lib.hid hm
  have hop := fun W (h : Below w.heap.size w W) => product_any _ _ x y W (HU.out.below h) (HV.out.below h) hx hy
  have OP := Lib.hid hop
  clear hop
  obtain ⟨W1, hW1⟩ : ∃ W1, W1 = ((w.alloc (.cells #[.slice a n n, .bool true] 66)).alloc (.cells #[.slice c m m, .bool false] 66)).alloc (.cells #[.slice none 0 0, .bool false] 66) := ⟨_, rfl⟩
  have hbx := box3 w (.slice a n n) true (.slice c m m) false 66
  rw [← hW1] at hbx
  obtain ⟨z0, hb0, d00, d01, d10, d11, s0⟩ := hbx
  have B1 := Lib.hid hb0
  have S1 := Lib.hid s0
  have D00 := Lib.hid d00
  have D01 := Lib.hid d01
  have D10 := Lib.hid d10
  have D11 := Lib.hid d11
  have hw1 : w.heap.size + 1 + 1 < W1.heap.size := by omega
  clear hu hv hn hm hb0 s0
  go_enter Tryz.func54, Tryz.ntmps54
  go_wp2
  rw [← hW1]
  clear hW1
  go_region_held3 (fun W => W.cell? ⟨w.heap.size, 0, none⟩ = some (.slice a n n) ∧ W.cell? ⟨w.heap.size, 1, none⟩ = some (.bool true) ∧ W.cell? ⟨w.heap.size + 1, 0, none⟩ = some (.slice c m m) ∧ W.cell? ⟨w.heap.size + 1, 1, none⟩ = some (.bool false)) (first | exact ⟨D00.out, D01.out, D10.out, D11.out⟩ | exact ⟨E00.out, E01.out, E10.out, E11.out⟩ | exact ⟨F00.out, F01.out, F10.out, F11.out⟩ | exact ⟨(far2 (by omega)).trans F00.out, (far2 (by omega)).trans F01.out, (far2 (by omega)).trans F10.out, (far2 (by omega)).trans F11.out⟩) (first | (go_at_call 89; refine (OP.out _ (by exact B1.out.drew)).mono ?_; rintro e w5 ⟨s5, rfl, hs5, hb5⟩; replace hb5 := below_undrew hb5; have z5 : W1.heap.size ≤ w5.heap.size := hb5.size; have E00 := Lib.hid ((below_at hb5 0 (show w.heap.size < W1.heap.size by omega)).trans D00.out); have E01 := Lib.hid ((below_at hb5 1 (show w.heap.size < W1.heap.size by omega)).trans D01.out); have E10 := Lib.hid ((below_at hb5 0 (show w.heap.size + 1 < W1.heap.size by omega)).trans D10.out); have E11 := Lib.hid ((below_at hb5 1 (show w.heap.size + 1 < W1.heap.size by omega)).trans D11.out); have H5 := Lib.hid hs5; have S5 := Lib.hid (S1.out.below (B := W1.heap.size) hb5 (by omega)); have B5 := Lib.hid (B1.out.trans (show Below w.heap.size W1 w5 from hb5.mono (show w.heap.size ≤ W1.heap.size by omega))); have K5 := Lib.hid hb5; clear hs5 hb5) | (go_at_call 69; refine (signed_true _ (x * y) w5 H5.out).mono ?_; rintro e w6 ⟨v6, rfl, hv6, hb6⟩; obtain ⟨s6, hs6⟩ : ∃ s6, s6 = decide (-(x * y) < 0) := ⟨_, rfl⟩; rw [← hs6]; have HS6 := Lib.hid hs6; clear hs6; obtain ⟨q0, q1, q2, q3⟩ := S5.out.below hb6 (by omega); have F00 := Lib.hid ((below_at hb6 0 (show w.heap.size < w5.heap.size by omega)).trans E00.out); have F01 := Lib.hid ((below_at hb6 1 (show w.heap.size < w5.heap.size by omega)).trans E01.out); have F10 := Lib.hid ((below_at hb6 0 (show w.heap.size + 1 < w5.heap.size by omega)).trans E10.out); have F11 := Lib.hid ((below_at hb6 1 (show w.heap.size + 1 < w5.heap.size by omega)).trans E11.out); have H6 := Lib.hid hv6; have B6 := Lib.hid (B5.out.trans (hb6.mono (by omega))); obtain ⟨a6, n6, rfl, hn6, _, _, _, _⟩ := hv6.form; have HN6 := Lib.hid hn6; clear hv6 hb6 hn6))
  all_goals
    go_wp2
    exact bodyPost_ret (v := .agg #[.slice a6 n6 n6, .bool s6]) (by simp [results, Tryz.results54, go_sem, q0, q1]) rfl ⟨_, by rw [HS6.out], storeN H6.out q0 q1 _ _, below_set (below_set B6.out 0 (by omega) _) 1 (by omega) _⟩
set_option maxHeartbeats 1000000 in
set_option maxRecDepth 100000 in
theorem times_tt (u v : Value) (x y : Int) (w : World) (hu : NatV w u x) (hv : NatV w v y) (hx : nl x ≤ 40000) (hy : nl y ≤ 40000) :
    Calls Tryz.prog 54 #[.agg #[u, .bool true], .agg #[v, .bool true]] w (GivesZ (x * y) w) := by
  have HU := Lib.hid hu
  have HV := Lib.hid hv
  obtain ⟨a, n, rfl, hn, _, hx0, _, _⟩ := hu.form
  obtain ⟨c, m, rfl, hm, _, hy0, _, _⟩ := hv.form
  have HN := Lib.hid hn
  have HM := Lib.hid hm
  have hop := fun W (h : Below w.heap.size w W) => product_any _ _ x y W (HU.out.below h) (HV.out.below h) hx hy
  have OP := Lib.hid hop
  clear hop
  obtain ⟨W1, hW1⟩ : ∃ W1, W1 = ((w.alloc (.cells #[.slice a n n, .bool true] 66)).alloc (.cells #[.slice c m m, .bool true] 66)).alloc (.cells #[.slice none 0 0, .bool false] 66) := ⟨_, rfl⟩
  have hbx := box3 w (.slice a n n) true (.slice c m m) true 66
  rw [← hW1] at hbx
  obtain ⟨z0, hb0, d00, d01, d10, d11, s0⟩ := hbx
  have B1 := Lib.hid hb0
  have S1 := Lib.hid s0
  have D00 := Lib.hid d00
  have D01 := Lib.hid d01
  have D10 := Lib.hid d10
  have D11 := Lib.hid d11
  have hw1 : w.heap.size + 1 + 1 < W1.heap.size := by omega
  clear hu hv hn hm hb0 s0
  go_enter Tryz.func54, Tryz.ntmps54
  go_wp2
  rw [← hW1]
  clear hW1
  go_region_held3 (fun W => W.cell? ⟨w.heap.size, 0, none⟩ = some (.slice a n n) ∧ W.cell? ⟨w.heap.size, 1, none⟩ = some (.bool true) ∧ W.cell? ⟨w.heap.size + 1, 0, none⟩ = some (.slice c m m) ∧ W.cell? ⟨w.heap.size + 1, 1, none⟩ = some (.bool true)) (first | exact ⟨D00.out, D01.out, D10.out, D11.out⟩ | exact ⟨E00.out, E01.out, E10.out, E11.out⟩ | exact ⟨F00.out, F01.out, F10.out, F11.out⟩ | exact ⟨(far2 (by omega)).trans F00.out, (far2 (by omega)).trans F01.out, (far2 (by omega)).trans F10.out, (far2 (by omega)).trans F11.out⟩) (first | (go_at_call 89; refine (OP.out _ (by exact B1.out.drew)).mono ?_; rintro e w5 ⟨s5, rfl, hs5, hb5⟩; replace hb5 := below_undrew hb5; have z5 : W1.heap.size ≤ w5.heap.size := hb5.size; have E00 := Lib.hid ((below_at hb5 0 (show w.heap.size < W1.heap.size by omega)).trans D00.out); have E01 := Lib.hid ((below_at hb5 1 (show w.heap.size < W1.heap.size by omega)).trans D01.out); have E10 := Lib.hid ((below_at hb5 0 (show w.heap.size + 1 < W1.heap.size by omega)).trans D10.out); have E11 := Lib.hid ((below_at hb5 1 (show w.heap.size + 1 < W1.heap.size by omega)).trans D11.out); have H5 := Lib.hid hs5; have S5 := Lib.hid (S1.out.below (B := W1.heap.size) hb5 (by omega)); have B5 := Lib.hid (B1.out.trans (show Below w.heap.size W1 w5 from hb5.mono (show w.heap.size ≤ W1.heap.size by omega))); have K5 := Lib.hid hb5; clear hs5 hb5) | (go_at_call 69; refine (signed_false _ (x * y) w5 H5.out).mono ?_; rintro e w6 ⟨v6, rfl, hv6, hb6⟩; obtain ⟨s6, hs6⟩ : ∃ s6, s6 = decide (x * y < 0) := ⟨_, rfl⟩; rw [← hs6]; have HS6 := Lib.hid hs6; clear hs6; obtain ⟨q0, q1, q2, q3⟩ := S5.out.below hb6 (by omega); have F00 := Lib.hid ((below_at hb6 0 (show w.heap.size < w5.heap.size by omega)).trans E00.out); have F01 := Lib.hid ((below_at hb6 1 (show w.heap.size < w5.heap.size by omega)).trans E01.out); have F10 := Lib.hid ((below_at hb6 0 (show w.heap.size + 1 < w5.heap.size by omega)).trans E10.out); have F11 := Lib.hid ((below_at hb6 1 (show w.heap.size + 1 < w5.heap.size by omega)).trans E11.out); have H6 := Lib.hid hv6; have B6 := Lib.hid (B5.out.trans (hb6.mono (by omega))); obtain ⟨a6, n6, rfl, hn6, _, _, _, _⟩ := hv6.form; have HN6 := Lib.hid hn6; clear hv6 hb6 hn6))
  all_goals
    go_wp2
    exact bodyPost_ret (v := .agg #[.slice a6 n6 n6, .bool s6]) (by simp [results, Tryz.results54, go_sem, q0, q1]) rfl ⟨_, by rw [HS6.out], storeN H6.out q0 q1 _ _, below_set (below_set B6.out 0 (by omega) _) 1 (by omega) _⟩
theorem times_any (u v : Value) (x y : Int) (w : World) (hu : NatV w u x.natAbs) (hv : NatV w v y.natAbs) (hx : nl x.natAbs ≤ 40000) (hy : nl y.natAbs ≤ 40000) :
    Calls Tryz.prog 54 #[.agg #[u, .bool (decide (x < 0))], .agg #[v, .bool (decide (y < 0))]] w (GivesZ (x * y) w) := by
  by_cases h1 : x < 0 <;> by_cases h2 : y < 0
  · rw [decide_eq_true h1, decide_eq_true h2]
    have := times_tt u v x.natAbs y.natAbs w hu hv hx hy
    rwa [show (x.natAbs : Int) = -x by omega, show (y.natAbs : Int) = -y by omega, Int.neg_mul_neg] at this
  · rw [decide_eq_true h1, decide_eq_false h2]
    have := times_tf u v x.natAbs y.natAbs w hu hv hx hy
    rwa [show (x.natAbs : Int) = -x by omega, show (y.natAbs : Int) = y by omega, Int.neg_mul, Int.neg_neg] at this
  · rw [decide_eq_false h1, decide_eq_true h2]
    have := times_ft u v x.natAbs y.natAbs w hu hv hx hy
    rwa [show (x.natAbs : Int) = x by omega, show (y.natAbs : Int) = -y by omega, Int.mul_neg, Int.neg_neg] at this
  · rw [decide_eq_false h1, decide_eq_false h2]
    have := times_ff u v x.natAbs y.natAbs w hu hv hx hy
    rwa [show (x.natAbs : Int) = x by omega, show (y.natAbs : Int) = y by omega] at this

set_option maxHeartbeats 1000000 in
set_option maxRecDepth 100000 in
theorem less_ff (u v : Value) (x y : Int) (w : World) (hu : NatV w u x.natAbs) (hv : NatV w v y.natAbs) (hx : nl x.natAbs ≤ 50000) (hy : nl y.natAbs ≤ 50000) (h1 : decide (x < 0) = false) (h2 : decide (y < 0) = false) :
    Calls Tryz.prog 52 #[.agg #[u, .bool false], .agg #[v, .bool false]] w (GivesZ (x + -y) w) := by
  have HU := Lib.hid hu
  have HV := Lib.hid hv
  obtain ⟨a, n, rfl, hn, _, hx0, _, _⟩ := hu.form
  obtain ⟨c, m, rfl, hm, _, hy0, _, _⟩ := hv.form
  have HN := Lib.hid hn
  have HM := Lib.hid hm
  have eb1 : decide (x < 0) = false := h1
  have eb2 : decide (y < 0) = false := h2
  have hop := fun W (h : Below w.heap.size w W) => negative_any _ y W (HV.out.below h)
  rw [eb2] at hop
  have OP := Lib.hid hop
  have hpl : ∀ W s (t : Bool), t = decide (-y < 0) → Below w.heap.size w W → NatV W s (-y).natAbs → Calls Tryz.prog 49 #[.agg #[.slice a n n, .bool (decide (x < 0))], .agg #[s, .bool t]] W (GivesZ (x + -y) W) := fun W s t e h k => by subst e; exact plus_any (.slice a n n) s x (-y) W (HU.out.below h) k hx (by rw [Int.natAbs_neg]; exact hy)
  rw [eb1] at hpl
  have PL := Lib.hid hpl
  clear hop hpl eb1 eb2 h1 h2
  obtain ⟨W1, hW1⟩ : ∃ W1, W1 = ((w.alloc (.cells #[.slice a n n, .bool false] 66)).alloc (.cells #[.slice c m m, .bool false] 66)).alloc (.cells #[.slice none 0 0, .bool false] 66) := ⟨_, rfl⟩
  have hbx := box3 w (.slice a n n) false (.slice c m m) false 66
  rw [← hW1] at hbx
  obtain ⟨z0, hb0, d00, d01, d10, d11, s0⟩ := hbx
  have B1 := Lib.hid hb0
  have S1 := Lib.hid s0
  have D00 := Lib.hid d00
  have D01 := Lib.hid d01
  have D10 := Lib.hid d10
  have D11 := Lib.hid d11
  have hw1 : w.heap.size + 1 + 1 < W1.heap.size := by omega
  clear hu hv hn hm hb0 s0
  go_enter Tryz.func52, Tryz.ntmps52
  go_wp2
  rw [← hW1]
  clear hW1
  go_region_held3 (fun W => W.cell? ⟨w.heap.size, 0, none⟩ = some (.slice a n n) ∧ W.cell? ⟨w.heap.size, 1, none⟩ = some (.bool false) ∧ W.cell? ⟨w.heap.size + 1, 0, none⟩ = some (.slice c m m) ∧ W.cell? ⟨w.heap.size + 1, 1, none⟩ = some (.bool false)) (first | exact ⟨D00.out, D01.out, D10.out, D11.out⟩ | exact ⟨E00.out, E01.out, E10.out, E11.out⟩ | exact ⟨F00.out, F01.out, F10.out, F11.out⟩ | exact ⟨(far2 (by omega)).trans F00.out, (far2 (by omega)).trans F01.out, (far2 (by omega)).trans F10.out, (far2 (by omega)).trans F11.out⟩) (first | (go_at_call 88; refine (OP.out _ (by exact B1.out.drew)).mono ?_; rintro e w5 ⟨s5, rfl, hs5, hb5⟩; obtain ⟨t5, ht5⟩ : ∃ t5, t5 = decide (-y < 0) := ⟨_, rfl⟩; rw [← ht5]; have HT5 := Lib.hid ht5; clear ht5; replace hb5 := below_undrew hb5; have z5 : W1.heap.size ≤ w5.heap.size := hb5.size; have E00 := Lib.hid ((below_at hb5 0 (show w.heap.size < W1.heap.size by omega)).trans D00.out); have E01 := Lib.hid ((below_at hb5 1 (show w.heap.size < W1.heap.size by omega)).trans D01.out); have E10 := Lib.hid ((below_at hb5 0 (show w.heap.size + 1 < W1.heap.size by omega)).trans D10.out); have E11 := Lib.hid ((below_at hb5 1 (show w.heap.size + 1 < W1.heap.size by omega)).trans D11.out); have H5 := Lib.hid hs5; have S5 := Lib.hid (S1.out.below (B := W1.heap.size) hb5 (by omega)); have B5 := Lib.hid (B1.out.trans (show Below w.heap.size W1 w5 from hb5.mono (show w.heap.size ≤ W1.heap.size by omega))); have K5 := Lib.hid hb5; clear hs5 hb5) | (go_at_call 49; refine (PL.out w5 _ t5 HT5.out B5.out H5.out).mono ?_; rintro e w6 ⟨v6, rfl, hv6, hb6⟩; obtain ⟨s6, hs6⟩ : ∃ s6, s6 = decide (x + -y < 0) := ⟨_, rfl⟩; rw [← hs6]; have HS6 := Lib.hid hs6; clear hs6; obtain ⟨q0, q1, q2, q3⟩ := S5.out.below hb6 (by omega); have F00 := Lib.hid ((below_at hb6 0 (show w.heap.size < w5.heap.size by omega)).trans E00.out); have F01 := Lib.hid ((below_at hb6 1 (show w.heap.size < w5.heap.size by omega)).trans E01.out); have F10 := Lib.hid ((below_at hb6 0 (show w.heap.size + 1 < w5.heap.size by omega)).trans E10.out); have F11 := Lib.hid ((below_at hb6 1 (show w.heap.size + 1 < w5.heap.size by omega)).trans E11.out); have H6 := Lib.hid hv6; have B6 := Lib.hid (B5.out.trans (hb6.mono (by omega))); obtain ⟨a6, n6, rfl, hn6, _, _, _, _⟩ := hv6.form; have HN6 := Lib.hid hn6; clear hv6 hb6 hn6))
  all_goals
    go_wp2
    exact bodyPost_ret (v := .agg #[.slice a6 n6 n6, .bool s6]) (by simp [results, Tryz.results52, go_sem, q0, q1]) rfl ⟨_, by rw [HS6.out], storeN H6.out q0 q1 _ _, below_set (below_set B6.out 0 (by omega) _) 1 (by omega) _⟩
set_option maxHeartbeats 1000000 in
set_option maxRecDepth 100000 in
theorem less_ft (u v : Value) (x y : Int) (w : World) (hu : NatV w u x.natAbs) (hv : NatV w v y.natAbs) (hx : nl x.natAbs ≤ 50000) (hy : nl y.natAbs ≤ 50000) (h1 : decide (x < 0) = false) (h2 : decide (y < 0) = true) :
    Calls Tryz.prog 52 #[.agg #[u, .bool false], .agg #[v, .bool true]] w (GivesZ (x + -y) w) := by
  have HU := Lib.hid hu
  have HV := Lib.hid hv
  obtain ⟨a, n, rfl, hn, _, hx0, _, _⟩ := hu.form
  obtain ⟨c, m, rfl, hm, _, hy0, _, _⟩ := hv.form
  have HN := Lib.hid hn
  have HM := Lib.hid hm
  have eb1 : decide (x < 0) = false := h1
  have eb2 : decide (y < 0) = true := h2
  have hop := fun W (h : Below w.heap.size w W) => negative_any _ y W (HV.out.below h)
  rw [eb2] at hop
  have OP := Lib.hid hop
  have hpl : ∀ W s (t : Bool), t = decide (-y < 0) → Below w.heap.size w W → NatV W s (-y).natAbs → Calls Tryz.prog 49 #[.agg #[.slice a n n, .bool (decide (x < 0))], .agg #[s, .bool t]] W (GivesZ (x + -y) W) := fun W s t e h k => by subst e; exact plus_any (.slice a n n) s x (-y) W (HU.out.below h) k hx (by rw [Int.natAbs_neg]; exact hy)
  rw [eb1] at hpl
  have PL := Lib.hid hpl
  clear hop hpl eb1 eb2 h1 h2
  obtain ⟨W1, hW1⟩ : ∃ W1, W1 = ((w.alloc (.cells #[.slice a n n, .bool false] 66)).alloc (.cells #[.slice c m m, .bool true] 66)).alloc (.cells #[.slice none 0 0, .bool false] 66) := ⟨_, rfl⟩
  have hbx := box3 w (.slice a n n) false (.slice c m m) true 66
  rw [← hW1] at hbx
  obtain ⟨z0, hb0, d00, d01, d10, d11, s0⟩ := hbx
  have B1 := Lib.hid hb0
  have S1 := Lib.hid s0
  have D00 := Lib.hid d00
  have D01 := Lib.hid d01
  have D10 := Lib.hid d10
  have D11 := Lib.hid d11
  have hw1 : w.heap.size + 1 + 1 < W1.heap.size := by omega
  clear hu hv hn hm hb0 s0
  go_enter Tryz.func52, Tryz.ntmps52
  go_wp2
  rw [← hW1]
  clear hW1
  go_region_held3 (fun W => W.cell? ⟨w.heap.size, 0, none⟩ = some (.slice a n n) ∧ W.cell? ⟨w.heap.size, 1, none⟩ = some (.bool false) ∧ W.cell? ⟨w.heap.size + 1, 0, none⟩ = some (.slice c m m) ∧ W.cell? ⟨w.heap.size + 1, 1, none⟩ = some (.bool true)) (first | exact ⟨D00.out, D01.out, D10.out, D11.out⟩ | exact ⟨E00.out, E01.out, E10.out, E11.out⟩ | exact ⟨F00.out, F01.out, F10.out, F11.out⟩ | exact ⟨(far2 (by omega)).trans F00.out, (far2 (by omega)).trans F01.out, (far2 (by omega)).trans F10.out, (far2 (by omega)).trans F11.out⟩) (first | (go_at_call 88; refine (OP.out _ (by exact B1.out.drew)).mono ?_; rintro e w5 ⟨s5, rfl, hs5, hb5⟩; obtain ⟨t5, ht5⟩ : ∃ t5, t5 = decide (-y < 0) := ⟨_, rfl⟩; rw [← ht5]; have HT5 := Lib.hid ht5; clear ht5; replace hb5 := below_undrew hb5; have z5 : W1.heap.size ≤ w5.heap.size := hb5.size; have E00 := Lib.hid ((below_at hb5 0 (show w.heap.size < W1.heap.size by omega)).trans D00.out); have E01 := Lib.hid ((below_at hb5 1 (show w.heap.size < W1.heap.size by omega)).trans D01.out); have E10 := Lib.hid ((below_at hb5 0 (show w.heap.size + 1 < W1.heap.size by omega)).trans D10.out); have E11 := Lib.hid ((below_at hb5 1 (show w.heap.size + 1 < W1.heap.size by omega)).trans D11.out); have H5 := Lib.hid hs5; have S5 := Lib.hid (S1.out.below (B := W1.heap.size) hb5 (by omega)); have B5 := Lib.hid (B1.out.trans (show Below w.heap.size W1 w5 from hb5.mono (show w.heap.size ≤ W1.heap.size by omega))); have K5 := Lib.hid hb5; clear hs5 hb5) | (go_at_call 49; refine (PL.out w5 _ t5 HT5.out B5.out H5.out).mono ?_; rintro e w6 ⟨v6, rfl, hv6, hb6⟩; obtain ⟨s6, hs6⟩ : ∃ s6, s6 = decide (x + -y < 0) := ⟨_, rfl⟩; rw [← hs6]; have HS6 := Lib.hid hs6; clear hs6; obtain ⟨q0, q1, q2, q3⟩ := S5.out.below hb6 (by omega); have F00 := Lib.hid ((below_at hb6 0 (show w.heap.size < w5.heap.size by omega)).trans E00.out); have F01 := Lib.hid ((below_at hb6 1 (show w.heap.size < w5.heap.size by omega)).trans E01.out); have F10 := Lib.hid ((below_at hb6 0 (show w.heap.size + 1 < w5.heap.size by omega)).trans E10.out); have F11 := Lib.hid ((below_at hb6 1 (show w.heap.size + 1 < w5.heap.size by omega)).trans E11.out); have H6 := Lib.hid hv6; have B6 := Lib.hid (B5.out.trans (hb6.mono (by omega))); obtain ⟨a6, n6, rfl, hn6, _, _, _, _⟩ := hv6.form; have HN6 := Lib.hid hn6; clear hv6 hb6 hn6))
  all_goals
    go_wp2
    exact bodyPost_ret (v := .agg #[.slice a6 n6 n6, .bool s6]) (by simp [results, Tryz.results52, go_sem, q0, q1]) rfl ⟨_, by rw [HS6.out], storeN H6.out q0 q1 _ _, below_set (below_set B6.out 0 (by omega) _) 1 (by omega) _⟩
set_option maxHeartbeats 1000000 in
set_option maxRecDepth 100000 in
theorem less_tf (u v : Value) (x y : Int) (w : World) (hu : NatV w u x.natAbs) (hv : NatV w v y.natAbs) (hx : nl x.natAbs ≤ 50000) (hy : nl y.natAbs ≤ 50000) (h1 : decide (x < 0) = true) (h2 : decide (y < 0) = false) :
    Calls Tryz.prog 52 #[.agg #[u, .bool true], .agg #[v, .bool false]] w (GivesZ (x + -y) w) := by
  have HU := Lib.hid hu
  have HV := Lib.hid hv
  obtain ⟨a, n, rfl, hn, _, hx0, _, _⟩ := hu.form
  obtain ⟨c, m, rfl, hm, _, hy0, _, _⟩ := hv.form
  have HN := Lib.hid hn
  have HM := Lib.hid hm
  have eb1 : decide (x < 0) = true := h1
  have eb2 : decide (y < 0) = false := h2
  have hop := fun W (h : Below w.heap.size w W) => negative_any _ y W (HV.out.below h)
  rw [eb2] at hop
  have OP := Lib.hid hop
  have hpl : ∀ W s (t : Bool), t = decide (-y < 0) → Below w.heap.size w W → NatV W s (-y).natAbs → Calls Tryz.prog 49 #[.agg #[.slice a n n, .bool (decide (x < 0))], .agg #[s, .bool t]] W (GivesZ (x + -y) W) := fun W s t e h k => by subst e; exact plus_any (.slice a n n) s x (-y) W (HU.out.below h) k hx (by rw [Int.natAbs_neg]; exact hy)
  rw [eb1] at hpl
  have PL := Lib.hid hpl
  clear hop hpl eb1 eb2 h1 h2
  obtain ⟨W1, hW1⟩ : ∃ W1, W1 = ((w.alloc (.cells #[.slice a n n, .bool true] 66)).alloc (.cells #[.slice c m m, .bool false] 66)).alloc (.cells #[.slice none 0 0, .bool false] 66) := ⟨_, rfl⟩
  have hbx := box3 w (.slice a n n) true (.slice c m m) false 66
  rw [← hW1] at hbx
  obtain ⟨z0, hb0, d00, d01, d10, d11, s0⟩ := hbx
  have B1 := Lib.hid hb0
  have S1 := Lib.hid s0
  have D00 := Lib.hid d00
  have D01 := Lib.hid d01
  have D10 := Lib.hid d10
  have D11 := Lib.hid d11
  have hw1 : w.heap.size + 1 + 1 < W1.heap.size := by omega
  clear hu hv hn hm hb0 s0
  go_enter Tryz.func52, Tryz.ntmps52
  go_wp2
  rw [← hW1]
  clear hW1
  go_region_held3 (fun W => W.cell? ⟨w.heap.size, 0, none⟩ = some (.slice a n n) ∧ W.cell? ⟨w.heap.size, 1, none⟩ = some (.bool true) ∧ W.cell? ⟨w.heap.size + 1, 0, none⟩ = some (.slice c m m) ∧ W.cell? ⟨w.heap.size + 1, 1, none⟩ = some (.bool false)) (first | exact ⟨D00.out, D01.out, D10.out, D11.out⟩ | exact ⟨E00.out, E01.out, E10.out, E11.out⟩ | exact ⟨F00.out, F01.out, F10.out, F11.out⟩ | exact ⟨(far2 (by omega)).trans F00.out, (far2 (by omega)).trans F01.out, (far2 (by omega)).trans F10.out, (far2 (by omega)).trans F11.out⟩) (first | (go_at_call 88; refine (OP.out _ (by exact B1.out.drew)).mono ?_; rintro e w5 ⟨s5, rfl, hs5, hb5⟩; obtain ⟨t5, ht5⟩ : ∃ t5, t5 = decide (-y < 0) := ⟨_, rfl⟩; rw [← ht5]; have HT5 := Lib.hid ht5; clear ht5; replace hb5 := below_undrew hb5; have z5 : W1.heap.size ≤ w5.heap.size := hb5.size; have E00 := Lib.hid ((below_at hb5 0 (show w.heap.size < W1.heap.size by omega)).trans D00.out); have E01 := Lib.hid ((below_at hb5 1 (show w.heap.size < W1.heap.size by omega)).trans D01.out); have E10 := Lib.hid ((below_at hb5 0 (show w.heap.size + 1 < W1.heap.size by omega)).trans D10.out); have E11 := Lib.hid ((below_at hb5 1 (show w.heap.size + 1 < W1.heap.size by omega)).trans D11.out); have H5 := Lib.hid hs5; have S5 := Lib.hid (S1.out.below (B := W1.heap.size) hb5 (by omega)); have B5 := Lib.hid (B1.out.trans (show Below w.heap.size W1 w5 from hb5.mono (show w.heap.size ≤ W1.heap.size by omega))); have K5 := Lib.hid hb5; clear hs5 hb5) | (go_at_call 49; refine (PL.out w5 _ t5 HT5.out B5.out H5.out).mono ?_; rintro e w6 ⟨v6, rfl, hv6, hb6⟩; obtain ⟨s6, hs6⟩ : ∃ s6, s6 = decide (x + -y < 0) := ⟨_, rfl⟩; rw [← hs6]; have HS6 := Lib.hid hs6; clear hs6; obtain ⟨q0, q1, q2, q3⟩ := S5.out.below hb6 (by omega); have F00 := Lib.hid ((below_at hb6 0 (show w.heap.size < w5.heap.size by omega)).trans E00.out); have F01 := Lib.hid ((below_at hb6 1 (show w.heap.size < w5.heap.size by omega)).trans E01.out); have F10 := Lib.hid ((below_at hb6 0 (show w.heap.size + 1 < w5.heap.size by omega)).trans E10.out); have F11 := Lib.hid ((below_at hb6 1 (show w.heap.size + 1 < w5.heap.size by omega)).trans E11.out); have H6 := Lib.hid hv6; have B6 := Lib.hid (B5.out.trans (hb6.mono (by omega))); obtain ⟨a6, n6, rfl, hn6, _, _, _, _⟩ := hv6.form; have HN6 := Lib.hid hn6; clear hv6 hb6 hn6))
  all_goals
    go_wp2
    exact bodyPost_ret (v := .agg #[.slice a6 n6 n6, .bool s6]) (by simp [results, Tryz.results52, go_sem, q0, q1]) rfl ⟨_, by rw [HS6.out], storeN H6.out q0 q1 _ _, below_set (below_set B6.out 0 (by omega) _) 1 (by omega) _⟩
set_option maxHeartbeats 1000000 in
set_option maxRecDepth 100000 in
theorem less_tt (u v : Value) (x y : Int) (w : World) (hu : NatV w u x.natAbs) (hv : NatV w v y.natAbs) (hx : nl x.natAbs ≤ 50000) (hy : nl y.natAbs ≤ 50000) (h1 : decide (x < 0) = true) (h2 : decide (y < 0) = true) :
    Calls Tryz.prog 52 #[.agg #[u, .bool true], .agg #[v, .bool true]] w (GivesZ (x + -y) w) := by
  have HU := Lib.hid hu
  have HV := Lib.hid hv
  obtain ⟨a, n, rfl, hn, _, hx0, _, _⟩ := hu.form
  obtain ⟨c, m, rfl, hm, _, hy0, _, _⟩ := hv.form
  have HN := Lib.hid hn
  have HM := Lib.hid hm
  have eb1 : decide (x < 0) = true := h1
  have eb2 : decide (y < 0) = true := h2
  have hop := fun W (h : Below w.heap.size w W) => negative_any _ y W (HV.out.below h)
  rw [eb2] at hop
  have OP := Lib.hid hop
  have hpl : ∀ W s (t : Bool), t = decide (-y < 0) → Below w.heap.size w W → NatV W s (-y).natAbs → Calls Tryz.prog 49 #[.agg #[.slice a n n, .bool (decide (x < 0))], .agg #[s, .bool t]] W (GivesZ (x + -y) W) := fun W s t e h k => by subst e; exact plus_any (.slice a n n) s x (-y) W (HU.out.below h) k hx (by rw [Int.natAbs_neg]; exact hy)
  rw [eb1] at hpl
  have PL := Lib.hid hpl
  clear hop hpl eb1 eb2 h1 h2
  obtain ⟨W1, hW1⟩ : ∃ W1, W1 = ((w.alloc (.cells #[.slice a n n, .bool true] 66)).alloc (.cells #[.slice c m m, .bool true] 66)).alloc (.cells #[.slice none 0 0, .bool false] 66) := ⟨_, rfl⟩
  have hbx := box3 w (.slice a n n) true (.slice c m m) true 66
  rw [← hW1] at hbx
  obtain ⟨z0, hb0, d00, d01, d10, d11, s0⟩ := hbx
  have B1 := Lib.hid hb0
  have S1 := Lib.hid s0
  have D00 := Lib.hid d00
  have D01 := Lib.hid d01
  have D10 := Lib.hid d10
  have D11 := Lib.hid d11
  have hw1 : w.heap.size + 1 + 1 < W1.heap.size := by omega
  clear hu hv hn hm hb0 s0
  go_enter Tryz.func52, Tryz.ntmps52
  go_wp2
  rw [← hW1]
  clear hW1
  go_region_held3 (fun W => W.cell? ⟨w.heap.size, 0, none⟩ = some (.slice a n n) ∧ W.cell? ⟨w.heap.size, 1, none⟩ = some (.bool true) ∧ W.cell? ⟨w.heap.size + 1, 0, none⟩ = some (.slice c m m) ∧ W.cell? ⟨w.heap.size + 1, 1, none⟩ = some (.bool true)) (first | exact ⟨D00.out, D01.out, D10.out, D11.out⟩ | exact ⟨E00.out, E01.out, E10.out, E11.out⟩ | exact ⟨F00.out, F01.out, F10.out, F11.out⟩ | exact ⟨(far2 (by omega)).trans F00.out, (far2 (by omega)).trans F01.out, (far2 (by omega)).trans F10.out, (far2 (by omega)).trans F11.out⟩) (first | (go_at_call 88; refine (OP.out _ (by exact B1.out.drew)).mono ?_; rintro e w5 ⟨s5, rfl, hs5, hb5⟩; obtain ⟨t5, ht5⟩ : ∃ t5, t5 = decide (-y < 0) := ⟨_, rfl⟩; rw [← ht5]; have HT5 := Lib.hid ht5; clear ht5; replace hb5 := below_undrew hb5; have z5 : W1.heap.size ≤ w5.heap.size := hb5.size; have E00 := Lib.hid ((below_at hb5 0 (show w.heap.size < W1.heap.size by omega)).trans D00.out); have E01 := Lib.hid ((below_at hb5 1 (show w.heap.size < W1.heap.size by omega)).trans D01.out); have E10 := Lib.hid ((below_at hb5 0 (show w.heap.size + 1 < W1.heap.size by omega)).trans D10.out); have E11 := Lib.hid ((below_at hb5 1 (show w.heap.size + 1 < W1.heap.size by omega)).trans D11.out); have H5 := Lib.hid hs5; have S5 := Lib.hid (S1.out.below (B := W1.heap.size) hb5 (by omega)); have B5 := Lib.hid (B1.out.trans (show Below w.heap.size W1 w5 from hb5.mono (show w.heap.size ≤ W1.heap.size by omega))); have K5 := Lib.hid hb5; clear hs5 hb5) | (go_at_call 49; refine (PL.out w5 _ t5 HT5.out B5.out H5.out).mono ?_; rintro e w6 ⟨v6, rfl, hv6, hb6⟩; obtain ⟨s6, hs6⟩ : ∃ s6, s6 = decide (x + -y < 0) := ⟨_, rfl⟩; rw [← hs6]; have HS6 := Lib.hid hs6; clear hs6; obtain ⟨q0, q1, q2, q3⟩ := S5.out.below hb6 (by omega); have F00 := Lib.hid ((below_at hb6 0 (show w.heap.size < w5.heap.size by omega)).trans E00.out); have F01 := Lib.hid ((below_at hb6 1 (show w.heap.size < w5.heap.size by omega)).trans E01.out); have F10 := Lib.hid ((below_at hb6 0 (show w.heap.size + 1 < w5.heap.size by omega)).trans E10.out); have F11 := Lib.hid ((below_at hb6 1 (show w.heap.size + 1 < w5.heap.size by omega)).trans E11.out); have H6 := Lib.hid hv6; have B6 := Lib.hid (B5.out.trans (hb6.mono (by omega))); obtain ⟨a6, n6, rfl, hn6, _, _, _, _⟩ := hv6.form; have HN6 := Lib.hid hn6; clear hv6 hb6 hn6))
  all_goals
    go_wp2
    exact bodyPost_ret (v := .agg #[.slice a6 n6 n6, .bool s6]) (by simp [results, Tryz.results52, go_sem, q0, q1]) rfl ⟨_, by rw [HS6.out], storeN H6.out q0 q1 _ _, below_set (below_set B6.out 0 (by omega) _) 1 (by omega) _⟩
theorem less_any (u v : Value) (x y : Int) (w : World) (hu : NatV w u x.natAbs) (hv : NatV w v y.natAbs) (hx : nl x.natAbs ≤ 50000) (hy : nl y.natAbs ≤ 50000) :
    Calls Tryz.prog 52 #[.agg #[u, .bool (decide (x < 0))], .agg #[v, .bool (decide (y < 0))]] w (GivesZ (x - y) w) := by
  rw [show x - y = x + -y by omega]
  cases h1 : decide (x < 0) <;> cases h2 : decide (y < 0)
  · exact less_ff u v x y w hu hv hx hy h1 h2
  · exact less_ft u v x y w hu hv hx hy h1 h2
  · exact less_tf u v x y w hu hv hx hy h1 h2
  · exact less_tt u v x y w hu hv hx hy h1 h2
end Go.Proofs.YtphbfjcaehiboaaGreatDoor
