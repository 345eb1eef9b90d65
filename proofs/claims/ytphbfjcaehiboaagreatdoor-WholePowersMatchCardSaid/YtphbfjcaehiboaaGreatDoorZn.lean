/-
  What whole.DivMod returns.
  number.divMod: the floored quotient and the remainder.
  What natural.power returns.
  What whole.Pow returns.
  What natural.root returns.
  What whole.Root returns, and Pow and Root of what is no argument.
-/
import Derived.Test.YtphbfjcaehiboaaGreatDoorZm
import Derived.Test.YtphbfjcaehiboaaGreatDoorZg
import Derived.Test.YtphbfjcaehiboaaGreatDoorZh
import Derived.Test.YtphbfjcaehiboaaGreatDoorZi
import Derived.Test.YtphbfjcaehiboaaGreatDoorZj
import Derived.Test.YtphbfjcaehiboaaGreatDoorZk
import Derived.Test.YtphbfjcaehiboaaGreatDoorZl
import Derived.Deep.RegionHeld3
import Derived.Test.YtphbfjcaehiboaaGreatDoorZe
import Derived.Deep.LoopGhost
namespace Go.Proofs.YtphbfjcaehiboaaGreatDoor
open Go.RowKit

/-- The call hands back two texts and an errno. -/
def GivesQr (s t : ByteArray) (n : Int) (w : World) (e : Ending) (w' : World) : Prop := e = .returned (.tuple #[.string s, .string t, .int .i64 n]) ∧ Below w.heap.size w w'
theorem fmod_abs {x y : Int} (hy : y ≠ 0) : (x.fmod y).natAbs < y.natAbs := by
  rcases Int.lt_or_lt_of_ne hy with h | h
  · have h1 := Int.fmod_nonneg_of_pos (-x) (show 0 < -y by omega)
    have h2 := Int.fmod_lt_of_pos (-x) (show 0 < -y by omega)
    rw [Int.neg_fmod_neg] at h1 h2
    omega
  · have h1 := Int.fmod_nonneg_of_pos x h
    have h2 := Int.fmod_lt_of_pos x h
    omega
theorem fdiv_abs0 {x y : Int} (hy : 0 < y) : (x.fdiv y).natAbs ≤ x.natAbs := by
  rw [Int.fdiv_eq_ediv_of_nonneg x (Int.le_of_lt hy)]
  by_cases h : 0 ≤ x
  · have h1 := Int.ediv_nonneg h (Int.le_of_lt hy)
    have h2 := Int.ediv_le_self y h
    omega
  · have h1 : x / y < 0 := Int.ediv_neg_of_neg_of_pos (by omega) hy
    have h2 : x ≤ x / y := (Int.le_ediv_iff_mul_le hy).2 (by
      have := Int.mul_nonneg (show 0 ≤ -x by omega) (show 0 ≤ y - 1 by omega)
      rw [Int.mul_sub, Int.neg_mul] at this
      omega)
    omega
theorem fdiv_abs {x y : Int} (hy : y ≠ 0) : (x.fdiv y).natAbs ≤ x.natAbs := by
  rcases Int.lt_or_lt_of_ne hy with h | h
  · have := fdiv_abs0 (x := -x) (y := -y) (by omega)
    rw [Int.neg_fdiv_neg, Int.natAbs_neg] at this
    exact this
  · exact fdiv_abs0 h
theorem dn_abs_le {x y : Int} (h : x.natAbs ≤ y.natAbs) : dn x ≤ dn y := by
  have := dn_mono (x := (x.natAbs : Int)) (y := (y.natAbs : Int)) (by omega) (by omega)
  rwa [dn_abs, dn_abs] at this
theorem sub_tdiv {x y : Int} (hy : y ≠ 0) : (x - x.fmod y).tdiv y = x.fdiv y := by
  have h := Int.mul_fdiv_add_fmod x y
  rw [show x - x.fmod y = y * x.fdiv y by omega, Int.mul_tdiv_cancel_left _ hy]
theorem DivMod_fast (x y : Int) (w : World) (tb : Tb w) (h1 : (tx x).size ≤ 18) (h2 : (tx y).size ≤ 18) (hy : y ≠ 0) :
    Calls Tryz.prog 25 #[.string (tx x), .string (tx y)] w (GivesQr (tx (x.fdiv y)) (tx (x.fmod y)) 0 w) := by
  have h4 := short_bd h1
  have h5 := short_bd h2
  have hm := fmod_abs (x := x) hy
  have hq := fdiv_abs (x := x) hy
  have hs := sub_tdiv (x := x) hy
  have WD := Lib.hid (words_yes x y w h1 h2)
  have hfm := floorMod_any x y w hy (by omega) (by omega)
  obtain ⟨q, hqe⟩ : ∃ q, q = x.fdiv y := ⟨_, rfl⟩
  obtain ⟨r, hre⟩ : ∃ r, r = x.fmod y := ⟨_, rfl⟩
  rw [← hqe] at hq hs ⊢
  rw [← hre] at hm hs hfm ⊢
  have FM := Lib.hid hfm
  have hof := fun W (t : Tb W) => of_any q W t (by omega) (by omega)
  have hof2 := fun W (t : Tb W) => of_any r W t (by omega) (by omega)
  have OF := Lib.hid (hof w tb)
  have OR := Lib.hid hof2
  have TB := Lib.hid tb
  obtain ⟨X, hX⟩ : ∃ X, X = tx x := ⟨_, rfl⟩
  obtain ⟨Y, hY⟩ : ∃ Y, Y = tx y := ⟨_, rfl⟩
  rw [← hX] at WD ⊢
  rw [← hY] at WD ⊢
  have hy0 : (y == 0) = false := beq_eq_false_iff_ne.2 hy
  have hy1 : (y != 0) = true := bne_iff_ne.2 hy
  have b1 : -1000000000000000000 < r := by omega
  have b2 : r < 1000000000000000000 := by omega
  have b3 : -1000000000000000000 < x := by omega
  have b4 : x < 1000000000000000000 := by omega
  have b5 : -1000000000000000000 < q := by omega
  have b6 : q < 1000000000000000000 := by omega
  obtain ⟨T, hT⟩ : ∃ T, T = tx q := ⟨_, rfl⟩
  obtain ⟨U, hU⟩ : ∃ U, U = tx r := ⟨_, rfl⟩
  rw [← hT] at OF ⊢
  rw [← hU] at OR ⊢
  clear hof hof2 hX hY tb h1 h2 h4 h5 hm hq hfm hqe hre hT hU
  go_enter Tryz.func25, Tryz.ntmps25
  go_wp2_with fail
  refine WD.out.mono ?_
  rintro e w' ⟨rfl, rfl⟩
  go_wp2_with fail
  refine FM.out.mono ?_
  rintro e w' ⟨rfl, rfl⟩
  go_wp2_with fail
  try rw [hs]
  refine OF.out.mono ?_
  rintro e w1 ⟨rfl, hb⟩
  have HB := Lib.hid hb
  clear hb
  go_wp2_with fail
  refine (OR.out w1 (TB.out.below HB.out)).mono ?_
  rintro e w2 ⟨rfl, hb2⟩
  have HB2 := Lib.hid (HB.out.trans (hb2.mono HB.out.size))
  clear hb2
  go_wp2
  go_ret3
  exact ⟨rfl, HB2.out⟩
theorem DivMod_zero1 (x y : Int) (w : World) (hx : dn x ≤ 1000) (hy : dn y ≤ 1000) (hn : ¬ ((tx x).size ≤ 18 ∧ (tx y).size ≤ 18)) (h0 : y = 0) :
    Calls Tryz.prog 25 #[.string (tx x), .string (tx y)] w (GivesQr ⟨#[]⟩ ⟨#[]⟩ 9 w) := by
  obtain ⟨a', b', hwd⟩ := words_tx x y w hx hy hn
  have WD := Lib.hid hwd
  clear hwd hn
  have HP1 := Lib.hid (parse_tx x w hx)
  have HP2 := Lib.hid (fun W => parse_tx y W hy)
  have ZD : Hid (decide ((y.natAbs : Int) = 0) = true) := decide_eq_true (by omega)
  clear h0
  obtain ⟨bx, hbx⟩ : ∃ bx, bx = decide (x < 0) := ⟨_, rfl⟩
  obtain ⟨by', hby⟩ : ∃ by', by' = decide (y < 0) := ⟨_, rfl⟩
  obtain ⟨X, hX⟩ : ∃ X, X = tx x := ⟨_, rfl⟩
  obtain ⟨Y, hY⟩ : ∃ Y, Y = tx y := ⟨_, rfl⟩
  rw [← hX] at HP1 WD ⊢
  rw [← hY] at HP2 WD ⊢
  have HBX := Lib.hid hbx
  have HBY := Lib.hid hby
  clear hbx hby hX hY
  go_enter Tryz.func25, Tryz.ntmps25
  go_wp2_with fail
  refine WD.out.mono ?_
  rintro e w' ⟨rfl, rfl⟩
  go_wp2_with fail
  refine HP1.out.mono ?_
  rintro e w1 ⟨v1, rfl, hv1, hb1⟩
  rw [← HBX.out]
  obtain ⟨a, n, rfl, hn, _, _, _, _⟩ := hv1.form
  have HN := Lib.hid hn
  have B2 := Lib.hid (hb1.alloc hb1.size (.cells #[.slice a n n, .bool bx] 66))
  have C2 := Lib.hid (cell2_new w1 (.slice a n n) (.bool bx) 66)
  have N2 := Lib.hid (hv1.below (alloc_below' w1 (.cells #[.slice a n n, .bool bx] 66)))
  have hz2 : (w1.alloc (.cells #[.slice a n n, .bool bx] 66)).heap.size = w1.heap.size + 1 := by simp
  have Z2 := Lib.hid hz2
  obtain ⟨K1, hK1⟩ : ∃ K1, K1 = w1.heap.size := ⟨_, rfl⟩
  rw [← hK1] at C2 Z2
  clear hv1 hb1 hn hz2
  have HK1 := Lib.hid hK1
  clear hK1
  go_wp2_with fail
  rw [← HK1.out]
  generalize w1.alloc (.cells #[.slice a n n, .bool bx] 66) = W2 at *
  refine (HP2.out W2).mono ?_
  rintro e w3 ⟨v3, rfl, hv3, hb3⟩
  rw [← HBY.out]
  obtain ⟨c, m, rfl, hm, _, _, _, _⟩ := hv3.form
  have HM := Lib.hid hm
  have hb4 := hb3.alloc hb3.size (.cells #[.slice c m m, .bool by'] 66)
  have B4 := Lib.hid (B2.out.trans (hb4.mono B2.out.size))
  have C4 := Lib.hid (cell2_new w3 (.slice c m m) (.bool by') 66)
  have N4 := Lib.hid (hv3.below (alloc_below' w3 (.cells #[.slice c m m, .bool by'] 66)))
  have M4 := Lib.hid (N2.out.below hb4)
  have hz4 : (w3.alloc (.cells #[.slice c m m, .bool by'] 66)).heap.size = w3.heap.size + 1 := by simp
  have Z4 := Lib.hid hz4
  have D4 := Lib.hid (show K1 < w3.heap.size by have := hb3.size; rw [Z2.out] at this; omega)
  have c0 := (below_at hb4 0 (show K1 < W2.heap.size by rw [Z2.out]; omega)).trans C2.out.1
  have c1 := (below_at hb4 1 (show K1 < W2.heap.size by rw [Z2.out]; omega)).trans C2.out.2
  have c2 := C4.out.1
  have c3 := C4.out.2
  obtain ⟨K3, hK3⟩ : ∃ K3, K3 = w3.heap.size := ⟨_, rfl⟩
  rw [← hK3] at c2 c3 Z4 D4
  have HK3 := Lib.hid hK3
  clear hv3 hb3 hm hb4 C2 C4 hK3 hz4
  go_wp2_with fail
  rw [← HK3.out]
  generalize w3.alloc (.cells #[.slice c m m, .bool by'] 66) = W4 at *
  refine (isZero_any _ _ W4 N4.out).mono ?_
  rintro e w5 ⟨rfl, rfl⟩
  rw [ZD.out]
  have hb5 := alloc_below' W4 (.cells #[.slice c m m] 64)
  have B5 := Lib.hid (B4.out.trans (hb5.mono B4.out.size))
  have N5 := Lib.hid (N4.out.below hb5)
  have M5 := Lib.hid (M4.out.below hb5)
  have d0 := (below_at hb5 0 (show K1 < W4.heap.size by rw [Z4.out]; have := D4.out; omega)).trans c0
  have d1 := (below_at hb5 1 (show K1 < W4.heap.size by rw [Z4.out]; have := D4.out; omega)).trans c1
  have d2 := (below_at hb5 0 (show K3 < W4.heap.size by rw [Z4.out]; omega)).trans c2
  have d3 := (below_at hb5 1 (show K3 < W4.heap.size by rw [Z4.out]; omega)).trans c3
  clear hb5 c0 c1 c2 c3
  generalize W4.alloc (.cells #[.slice c m m] 64) = W5 at *
  go_wp2
  go_ret3
  exact ⟨rfl, B5.out⟩
theorem DivMod_zero2 (x y : Int) (w : World) (hx : dn x ≤ 1000) (hy : dn y ≤ 1000) (h1 : (tx x).size ≤ 18) (h2 : (tx y).size ≤ 18) (h0 : y = 0) :
    Calls Tryz.prog 25 #[.string (tx x), .string (tx y)] w (GivesQr ⟨#[]⟩ ⟨#[]⟩ 9 w) := by
  have hwd := words_yes x y w h1 h2
  rw [h0] at hwd
  rw [show tx 0 = tx y by rw [h0]] at hwd
  have WD := Lib.hid hwd
  clear hwd h1 h2
  have HP1 := Lib.hid (parse_tx x w hx)
  have HP2 := Lib.hid (fun W => parse_tx y W hy)
  have ZD : Hid (decide ((y.natAbs : Int) = 0) = true) := decide_eq_true (by omega)
  clear h0
  obtain ⟨bx, hbx⟩ : ∃ bx, bx = decide (x < 0) := ⟨_, rfl⟩
  obtain ⟨by', hby⟩ : ∃ by', by' = decide (y < 0) := ⟨_, rfl⟩
  obtain ⟨X, hX⟩ : ∃ X, X = tx x := ⟨_, rfl⟩
  obtain ⟨Y, hY⟩ : ∃ Y, Y = tx y := ⟨_, rfl⟩
  rw [← hX] at HP1 WD ⊢
  rw [← hY] at HP2 WD ⊢
  have HBX := Lib.hid hbx
  have HBY := Lib.hid hby
  clear hbx hby hX hY
  go_enter Tryz.func25, Tryz.ntmps25
  go_wp2_with fail
  refine WD.out.mono ?_
  rintro e w' ⟨rfl, rfl⟩
  go_wp2_with fail
  refine HP1.out.mono ?_
  rintro e w1 ⟨v1, rfl, hv1, hb1⟩
  rw [← HBX.out]
  obtain ⟨a, n, rfl, hn, _, _, _, _⟩ := hv1.form
  have HN := Lib.hid hn
  have B2 := Lib.hid (hb1.alloc hb1.size (.cells #[.slice a n n, .bool bx] 66))
  have C2 := Lib.hid (cell2_new w1 (.slice a n n) (.bool bx) 66)
  have N2 := Lib.hid (hv1.below (alloc_below' w1 (.cells #[.slice a n n, .bool bx] 66)))
  have hz2 : (w1.alloc (.cells #[.slice a n n, .bool bx] 66)).heap.size = w1.heap.size + 1 := by simp
  have Z2 := Lib.hid hz2
  obtain ⟨K1, hK1⟩ : ∃ K1, K1 = w1.heap.size := ⟨_, rfl⟩
  rw [← hK1] at C2 Z2
  clear hv1 hb1 hn hz2
  have HK1 := Lib.hid hK1
  clear hK1
  go_wp2_with fail
  rw [← HK1.out]
  generalize w1.alloc (.cells #[.slice a n n, .bool bx] 66) = W2 at *
  refine (HP2.out W2).mono ?_
  rintro e w3 ⟨v3, rfl, hv3, hb3⟩
  rw [← HBY.out]
  obtain ⟨c, m, rfl, hm, _, _, _, _⟩ := hv3.form
  have HM := Lib.hid hm
  have hb4 := hb3.alloc hb3.size (.cells #[.slice c m m, .bool by'] 66)
  have B4 := Lib.hid (B2.out.trans (hb4.mono B2.out.size))
  have C4 := Lib.hid (cell2_new w3 (.slice c m m) (.bool by') 66)
  have N4 := Lib.hid (hv3.below (alloc_below' w3 (.cells #[.slice c m m, .bool by'] 66)))
  have M4 := Lib.hid (N2.out.below hb4)
  have hz4 : (w3.alloc (.cells #[.slice c m m, .bool by'] 66)).heap.size = w3.heap.size + 1 := by simp
  have Z4 := Lib.hid hz4
  have D4 := Lib.hid (show K1 < w3.heap.size by have := hb3.size; rw [Z2.out] at this; omega)
  have c0 := (below_at hb4 0 (show K1 < W2.heap.size by rw [Z2.out]; omega)).trans C2.out.1
  have c1 := (below_at hb4 1 (show K1 < W2.heap.size by rw [Z2.out]; omega)).trans C2.out.2
  have c2 := C4.out.1
  have c3 := C4.out.2
  obtain ⟨K3, hK3⟩ : ∃ K3, K3 = w3.heap.size := ⟨_, rfl⟩
  rw [← hK3] at c2 c3 Z4 D4
  have HK3 := Lib.hid hK3
  clear hv3 hb3 hm hb4 C2 C4 hK3 hz4
  go_wp2_with fail
  rw [← HK3.out]
  generalize w3.alloc (.cells #[.slice c m m, .bool by'] 66) = W4 at *
  refine (isZero_any _ _ W4 N4.out).mono ?_
  rintro e w5 ⟨rfl, rfl⟩
  rw [ZD.out]
  have hb5 := alloc_below' W4 (.cells #[.slice c m m] 64)
  have B5 := Lib.hid (B4.out.trans (hb5.mono B4.out.size))
  have N5 := Lib.hid (N4.out.below hb5)
  have M5 := Lib.hid (M4.out.below hb5)
  have d0 := (below_at hb5 0 (show K1 < W4.heap.size by rw [Z4.out]; have := D4.out; omega)).trans c0
  have d1 := (below_at hb5 1 (show K1 < W4.heap.size by rw [Z4.out]; have := D4.out; omega)).trans c1
  have d2 := (below_at hb5 0 (show K3 < W4.heap.size by rw [Z4.out]; omega)).trans c2
  have d3 := (below_at hb5 1 (show K3 < W4.heap.size by rw [Z4.out]; omega)).trans c3
  clear hb5 c0 c1 c2 c3
  generalize W4.alloc (.cells #[.slice c m m] 64) = W5 at *
  go_wp2
  go_ret3
  exact ⟨rfl, B5.out⟩
theorem DivMod_slow (x y : Int) (w : World) (hx : dn x ≤ 1000) (hy : dn y ≤ 1000) (hn : ¬ ((tx x).size ≤ 18 ∧ (tx y).size ≤ 18)) (h0 : y ≠ 0)
    (dm : ∀ (u v : Value) (W : World), NatV W u x.natAbs → NatV W v y.natAbs → Calls Tryz.prog 59 #[.agg #[u, .bool (decide (x < 0))], .agg #[v, .bool (decide (y < 0))]] W (GivesZZ (x.fdiv y) (x.fmod y) W)) :
    Calls Tryz.prog 25 #[.string (tx x), .string (tx y)] w (GivesQr (tx (x.fdiv y)) (tx (x.fmod y)) 0 w) := by
  obtain ⟨a', b', hwd⟩ := words_tx x y w hx hy hn
  have WD := Lib.hid hwd
  clear hwd hn
  have HP1 := Lib.hid (parse_tx x w hx)
  have HP2 := Lib.hid (fun W => parse_tx y W hy)
  have ZD : Hid (decide ((y.natAbs : Int) = 0) = false) := decide_eq_false (by omega)
  have hq1 : dn (x.fdiv y) ≤ 1000 := Nat.le_trans (dn_abs_le (fdiv_abs h0)) hx
  have hr1 : dn (x.fmod y) ≤ 1000 := Nat.le_trans (dn_abs_le (Nat.le_of_lt (fmod_abs h0))) hy
  obtain ⟨q, hqe⟩ : ∃ q, q = x.fdiv y := ⟨_, rfl⟩
  obtain ⟨r, hre⟩ : ∃ r, r = x.fmod y := ⟨_, rfl⟩
  rw [← hqe] at hq1 dm ⊢
  rw [← hre] at hr1 dm ⊢
  have htx : ∀ z W v s, dn z ≤ 1000 → s = decide (z < 0) → NatV W v z.natAbs → Calls Tryz.prog 60 #[.agg #[v, .bool s]] W fun e w' => e = .returned (.tuple #[.string (tx z), .int .i64 0]) ∧ Below W.heap.size W w' := fun z W v s h1 e h => by
    subst e
    have := text_any v z W h
    unfold GivesX at this
    rwa [if_pos h1, if_pos h1] at this
  have TQ := Lib.hid (fun W v s => htx q W v s hq1)
  have TR := Lib.hid (fun W v s => htx r W v s hr1)
  clear hqe hre hq1 hr1 htx h0
  obtain ⟨bx, hbx⟩ : ∃ bx, bx = decide (x < 0) := ⟨_, rfl⟩
  obtain ⟨by', hby⟩ : ∃ by', by' = decide (y < 0) := ⟨_, rfl⟩
  obtain ⟨X, hX⟩ : ∃ X, X = tx x := ⟨_, rfl⟩
  obtain ⟨Y, hY⟩ : ∃ Y, Y = tx y := ⟨_, rfl⟩
  rw [← hX] at HP1 WD ⊢
  rw [← hY] at HP2 WD ⊢
  have HBX := Lib.hid hbx
  have HBY := Lib.hid hby
  rw [← hbx, ← hby] at dm
  have DM := Lib.hid dm
  clear dm
  clear hbx hby hX hY
  go_enter Tryz.func25, Tryz.ntmps25
  go_wp2_with fail
  refine WD.out.mono ?_
  rintro e w' ⟨rfl, rfl⟩
  go_wp2_with fail
  refine HP1.out.mono ?_
  rintro e w1 ⟨v1, rfl, hv1, hb1⟩
  rw [← HBX.out]
  obtain ⟨a, n, rfl, hn, _, _, _, _⟩ := hv1.form
  have HN := Lib.hid hn
  have B2 := Lib.hid (hb1.alloc hb1.size (.cells #[.slice a n n, .bool bx] 66))
  have C2 := Lib.hid (cell2_new w1 (.slice a n n) (.bool bx) 66)
  have N2 := Lib.hid (hv1.below (alloc_below' w1 (.cells #[.slice a n n, .bool bx] 66)))
  have hz2 : (w1.alloc (.cells #[.slice a n n, .bool bx] 66)).heap.size = w1.heap.size + 1 := by simp
  have Z2 := Lib.hid hz2
  obtain ⟨K1, hK1⟩ : ∃ K1, K1 = w1.heap.size := ⟨_, rfl⟩
  rw [← hK1] at C2 Z2
  clear hv1 hb1 hn hz2
  have HK1 := Lib.hid hK1
  clear hK1
  go_wp2_with fail
  rw [← HK1.out]
  generalize w1.alloc (.cells #[.slice a n n, .bool bx] 66) = W2 at *
  refine (HP2.out W2).mono ?_
  rintro e w3 ⟨v3, rfl, hv3, hb3⟩
  rw [← HBY.out]
  obtain ⟨c, m, rfl, hm, _, _, _, _⟩ := hv3.form
  have HM := Lib.hid hm
  have hb4 := hb3.alloc hb3.size (.cells #[.slice c m m, .bool by'] 66)
  have B4 := Lib.hid (B2.out.trans (hb4.mono B2.out.size))
  have C4 := Lib.hid (cell2_new w3 (.slice c m m) (.bool by') 66)
  have N4 := Lib.hid (hv3.below (alloc_below' w3 (.cells #[.slice c m m, .bool by'] 66)))
  have M4 := Lib.hid (N2.out.below hb4)
  have hz4 : (w3.alloc (.cells #[.slice c m m, .bool by'] 66)).heap.size = w3.heap.size + 1 := by simp
  have Z4 := Lib.hid hz4
  have D4 := Lib.hid (show K1 < w3.heap.size by have := hb3.size; rw [Z2.out] at this; omega)
  have c0 := (below_at hb4 0 (show K1 < W2.heap.size by rw [Z2.out]; omega)).trans C2.out.1
  have c1 := (below_at hb4 1 (show K1 < W2.heap.size by rw [Z2.out]; omega)).trans C2.out.2
  have c2 := C4.out.1
  have c3 := C4.out.2
  obtain ⟨K3, hK3⟩ : ∃ K3, K3 = w3.heap.size := ⟨_, rfl⟩
  rw [← hK3] at c2 c3 Z4 D4
  have HK3 := Lib.hid hK3
  clear hv3 hb3 hm hb4 C2 C4 hK3 hz4
  go_wp2_with fail
  rw [← HK3.out]
  generalize w3.alloc (.cells #[.slice c m m, .bool by'] 66) = W4 at *
  refine (isZero_any _ _ W4 N4.out).mono ?_
  rintro e w5 ⟨rfl, rfl⟩
  rw [ZD.out]
  have hb5 := alloc_below' W4 (.cells #[.slice c m m] 64)
  have B5 := Lib.hid (B4.out.trans (hb5.mono B4.out.size))
  have N5 := Lib.hid (N4.out.below hb5)
  have M5 := Lib.hid (M4.out.below hb5)
  have d0 := (below_at hb5 0 (show K1 < W4.heap.size by rw [Z4.out]; have := D4.out; omega)).trans c0
  have d1 := (below_at hb5 1 (show K1 < W4.heap.size by rw [Z4.out]; have := D4.out; omega)).trans c1
  have d2 := (below_at hb5 0 (show K3 < W4.heap.size by rw [Z4.out]; omega)).trans c2
  have d3 := (below_at hb5 1 (show K3 < W4.heap.size by rw [Z4.out]; omega)).trans c3
  clear hb5 c0 c1 c2 c3
  generalize W4.alloc (.cells #[.slice c m m] 64) = W5 at *
  go_wp2_with fail
  refine (DM.out _ _ W5 M5.out N5.out).mono ?_
  rintro e w6 ⟨v6, u6, rfl, hv6, hu6, hb6⟩
  obtain ⟨sq, hsq⟩ : ∃ sq, sq = decide (q < 0) := ⟨_, rfl⟩
  obtain ⟨sr, hsr⟩ : ∃ sr, sr = decide (r < 0) := ⟨_, rfl⟩
  rw [← hsq, ← hsr]
  have SQ := Lib.hid hsq
  have SR := Lib.hid hsr
  obtain ⟨a6, n6, rfl, hn6, _, _, _, _⟩ := hv6.form
  obtain ⟨c6, m6, rfl, hm6, _, _, _, _⟩ := hu6.form
  have HN6 := Lib.hid hn6
  have HM6 := Lib.hid hm6
  have B6 := Lib.hid (B5.out.trans (hb6.mono B5.out.size))
  have hb7 := alloc_below' w6 (.cells #[.slice a6 n6 n6, .bool sq] 66)
  have hb8 := alloc_below' (w6.alloc (.cells #[.slice a6 n6 n6, .bool sq] 66)) (.cells #[.slice c6 m6 m6, .bool sr] 66)
  have hz7 : (w6.alloc (.cells #[.slice a6 n6 n6, .bool sq] 66)).heap.size = w6.heap.size + 1 := by simp
  have hb9 := hb7.trans (hb8.mono (by rw [hz7]; omega))
  have C7 := cell2_new w6 (.slice a6 n6 n6) (.bool sq) 66
  have C8 := cell2_new (w6.alloc (.cells #[.slice a6 n6 n6, .bool sq] 66)) (.slice c6 m6 m6) (.bool sr) 66
  have e0 := (below_at hb8 0 (by rw [hz7]; omega)).trans C7.1
  have e1 := (below_at hb8 1 (by rw [hz7]; omega)).trans C7.2
  have e2 := C8.1
  have e3 := C8.2
  rw [hz7] at e2 e3
  have hz8 : ((w6.alloc (.cells #[.slice a6 n6 n6, .bool sq] 66)).alloc (.cells #[.slice c6 m6 m6, .bool sr] 66)).heap.size = w6.heap.size + 1 + 1 := by simp
  have Z8 := Lib.hid hz8
  have B9 := Lib.hid (B6.out.trans (hb9.mono B6.out.size))
  have N9 := Lib.hid (hv6.below hb9)
  have M9 := Lib.hid (hu6.below hb9)
  obtain ⟨K6, hK6⟩ : ∃ K6, K6 = w6.heap.size := ⟨_, rfl⟩
  rw [← hK6] at e0 e1 e2 e3 Z8
  have HK6 := Lib.hid hK6
  clear hv6 hu6 hb6 hb7 hb8 hb9 hz7 hz8 C7 C8 hn6 hm6 hsq hsr hK6 d0 d1 d2 d3
  go_wp2_with fail
  rw [← HK6.out]
  generalize (w6.alloc (.cells #[.slice a6 n6 n6, .bool sq] 66)).alloc (.cells #[.slice c6 m6 m6, .bool sr] 66) = W9 at *
  refine (TQ.out W9 _ _ SQ.out N9.out).mono ?_
  rintro e w10 ⟨rfl, hb10⟩
  have f2 := (below_at hb10 0 (show K6 + 1 < W9.heap.size by rw [Z8.out]; omega)).trans e2
  have f3 := (below_at hb10 1 (show K6 + 1 < W9.heap.size by rw [Z8.out]; omega)).trans e3
  have M10 := Lib.hid (M9.out.below hb10)
  have B10 := Lib.hid (B9.out.trans (hb10.mono B9.out.size))
  obtain ⟨TQ', hTQ⟩ : ∃ s, s = tx q := ⟨_, rfl⟩
  rw [← hTQ]
  have HTQ := Lib.hid hTQ
  clear hb10 hTQ e0 e1 e2 e3
  go_wp2_with fail
  refine (TR.out w10 _ _ SR.out M10.out).mono ?_
  rintro e w11 ⟨rfl, hb11⟩
  have B11 := Lib.hid (B10.out.trans (hb11.mono B10.out.size))
  obtain ⟨TR', hTR⟩ : ∃ s, s = tx r := ⟨_, rfl⟩
  rw [← hTR]
  have HTR := Lib.hid hTR
  clear hb11 hTR
  go_wp2
  go_ret3
  exact ⟨by rw [← HTQ.out, ← HTR.out]; rfl, B11.out⟩
theorem DivMod_bad1 (s : ByteArray) (y : Int) (w : World) (hs : s.size ≤ 9223372036854775807) (h1 : isT s.data.toList = false) (hy : dn y ≤ 1000) :
    Calls Tryz.prog 25 #[.string s, .string (tx y)] w (GivesQr ⟨#[]⟩ ⟨#[]⟩ 1 w) := by
  obtain ⟨a', b', hwd⟩ := words_bad s (tx y) w hs (by have := tx_le hy; omega) (.inl h1)
  have WD := Lib.hid hwd
  clear hwd
  have HP1 := Lib.hid (parse_no s w hs h1)
  have HP2 := Lib.hid (fun W => parse_tx y W hy)
  clear h1
  obtain ⟨by', hby⟩ : ∃ by', by' = decide (y < 0) := ⟨_, rfl⟩
  obtain ⟨Y, hY⟩ : ∃ Y, Y = tx y := ⟨_, rfl⟩
  rw [← hY] at HP2 WD ⊢
  have HBY := Lib.hid hby
  clear hby hY
  go_enter Tryz.func25, Tryz.ntmps25
  go_wp2_with fail
  refine WD.out.mono ?_
  rintro e w' ⟨rfl, rfl⟩
  go_wp2_with fail
  refine HP1.out.mono ?_
  rintro e w1 ⟨rfl, hb1⟩
  have B2 := Lib.hid (hb1.alloc hb1.size (.cells #[.slice none 0 0, .bool false] 66))
  clear hb1
  go_wp2_with fail
  generalize w1.alloc (.cells #[.slice none 0 0, .bool false] 66) = W2 at *
  refine (HP2.out W2).mono ?_
  rintro e w3 ⟨v3, rfl, hv3, hb3⟩
  rw [← HBY.out]
  obtain ⟨c, m, rfl, hm, _, _, _, _⟩ := hv3.form
  have HM := Lib.hid hm
  have B4 := Lib.hid (B2.out.trans ((hb3.alloc hb3.size (.cells #[.slice c m m, .bool by'] 66)).mono B2.out.size))
  clear hv3 hb3 hm
  go_wp2
  go_ret3
  exact ⟨rfl, B4.out⟩
theorem DivMod_bad2 (x : Int) (t : ByteArray) (w : World) (hx : dn x ≤ 1000) (ht : t.size ≤ 9223372036854775807) (h2 : isT t.data.toList = false) :
    Calls Tryz.prog 25 #[.string (tx x), .string t] w (GivesQr ⟨#[]⟩ ⟨#[]⟩ 1 w) := by
  obtain ⟨a', b', hwd⟩ := words_bad (tx x) t w (by have := tx_le hx; omega) ht (.inr h2)
  have WD := Lib.hid hwd
  clear hwd
  have HP1 := Lib.hid (parse_tx x w hx)
  have HP2 := Lib.hid (fun W => parse_no t W ht h2)
  obtain ⟨bx, hbx⟩ : ∃ bx, bx = decide (x < 0) := ⟨_, rfl⟩
  obtain ⟨X, hX⟩ : ∃ X, X = tx x := ⟨_, rfl⟩
  rw [← hX] at HP1 WD ⊢
  have HBX := Lib.hid hbx
  clear hbx hX
  clear h2
  go_enter Tryz.func25, Tryz.ntmps25
  go_wp2_with fail
  refine WD.out.mono ?_
  rintro e w' ⟨rfl, rfl⟩
  go_wp2_with fail
  refine HP1.out.mono ?_
  rintro e w1 ⟨v1, rfl, hv1, hb1⟩
  rw [← HBX.out]
  obtain ⟨a, n, rfl, hn, _, _, _, _⟩ := hv1.form
  have HN := Lib.hid hn
  have B2 := Lib.hid (hb1.alloc hb1.size (.cells #[.slice a n n, .bool bx] 66))
  clear hv1 hb1 hn
  go_wp2_with fail
  generalize w1.alloc (.cells #[.slice a n n, .bool bx] 66) = W2 at *
  refine (HP2.out W2).mono ?_
  rintro e w3 ⟨rfl, hb3⟩
  have B4 := Lib.hid (B2.out.trans ((hb3.alloc hb3.size (.cells #[.slice none 0 0, .bool false] 66)).mono B2.out.size))
  clear hb3
  go_wp2
  go_ret3
  exact ⟨rfl, B4.out⟩
theorem DivMod_bad3 (s : ByteArray) (t : ByteArray) (w : World) (hs : s.size ≤ 9223372036854775807) (h1 : isT s.data.toList = false) (ht : t.size ≤ 9223372036854775807) (h2 : isT t.data.toList = false) :
    Calls Tryz.prog 25 #[.string s, .string t] w (GivesQr ⟨#[]⟩ ⟨#[]⟩ 1 w) := by
  obtain ⟨a', b', hwd⟩ := words_bad s t w hs ht (.inl h1)
  have WD := Lib.hid hwd
  clear hwd
  have HP1 := Lib.hid (parse_no s w hs h1)
  have HP2 := Lib.hid (fun W => parse_no t W ht h2)
  clear h1
  clear h2
  go_enter Tryz.func25, Tryz.ntmps25
  go_wp2_with fail
  refine WD.out.mono ?_
  rintro e w' ⟨rfl, rfl⟩
  go_wp2_with fail
  refine HP1.out.mono ?_
  rintro e w1 ⟨rfl, hb1⟩
  have B2 := Lib.hid (hb1.alloc hb1.size (.cells #[.slice none 0 0, .bool false] 66))
  clear hb1
  go_wp2_with fail
  generalize w1.alloc (.cells #[.slice none 0 0, .bool false] 66) = W2 at *
  refine (HP2.out W2).mono ?_
  rintro e w3 ⟨rfl, hb3⟩
  have B4 := Lib.hid (B2.out.trans ((hb3.alloc hb3.size (.cells #[.slice none 0 0, .bool false] 66)).mono B2.out.size))
  clear hb3
  go_wp2
  go_ret3
  exact ⟨rfl, B4.out⟩
theorem DivMod_bad (s t : ByteArray) (w : World) (hs : s.size ≤ 9223372036854775807) (ht : t.size ≤ 9223372036854775807) (h : isT s.data.toList = false ∨ isT t.data.toList = false) :
    Calls Tryz.prog 25 #[.string s, .string t] w (GivesQr ⟨#[]⟩ ⟨#[]⟩ 1 w) := by
  rcases tx_or s with ⟨x, rfl, hx⟩ | h1
  · refine DivMod_bad2 x t w hx ht ?_
    rcases h with h | h
    · rw [isT_tx hx] at h; cases h
    · exact h
  · rcases tx_or t with ⟨y, rfl, hy⟩ | h2
    · exact DivMod_bad1 s y w hs h1 hy
    · exact DivMod_bad3 s t w hs h1 ht h2
theorem DivMod_zero (x : Int) (w : World) (hx : dn x ≤ 1000) :
    Calls Tryz.prog 25 #[.string (tx x), .string (tx 0)] w (GivesQr ⟨#[]⟩ ⟨#[]⟩ 9 w) := by
  by_cases h : (tx x).size ≤ 18 ∧ (tx 0).size ≤ 18
  · exact DivMod_zero2 x 0 w hx (by rw [dn_zero]; omega) h.1 h.2 rfl
  · exact DivMod_zero1 x 0 w hx (by rw [dn_zero]; omega) h rfl
end Go.Proofs.YtphbfjcaehiboaaGreatDoor
namespace Go.Proofs.YtphbfjcaehiboaaGreatDoor
open Go.RowKit

theorem mul_facts (y n : Int) : y * (-n) = -(y * n) ∧ -y * n = -(y * n) ∧ y * (-n - 1) = -(y * n) - y := by
  refine ⟨Int.mul_neg _ _, Int.neg_mul _ _, ?_⟩
  rw [Int.mul_sub, Int.mul_neg]
  omega
theorem dm_any (u v : Value) (x y : Int) (w : World) (hu : NatV w u x.natAbs) (hv : NatV w v y.natAbs) (hy : y ≠ 0) (hx9 : nl x.natAbs ≤ 40000) (hy9 : nl y.natAbs ≤ 40000) :
    Calls Tryz.prog 59 #[.agg #[u, .bool (decide (x < 0))], .agg #[v, .bool (decide (y < 0))]] w (GivesZZ (x.fdiv y) (x.fmod y) w) := by
  have hY : 0 < (y.natAbs : Int) := by omega
  have hE : (y.natAbs : Int) * ((x.natAbs : Int) / y.natAbs) + (x.natAbs : Int) % y.natAbs = x.natAbs := Int.mul_ediv_add_emod _ _
  have h0 := Int.emod_nonneg (x.natAbs : Int) (show (y.natAbs : Int) ≠ 0 by omega)
  have h1 := Int.emod_lt_of_pos (x.natAbs : Int) hY
  obtain ⟨n, hn⟩ : ∃ n, (x.natAbs : Int) / y.natAbs = n := ⟨_, rfl⟩
  obtain ⟨m, hm⟩ : ∃ m, (x.natAbs : Int) % y.natAbs = m := ⟨_, rfl⟩
  rw [hn, hm] at hE
  rw [hm] at h0 h1
  by_cases hx : x < 0 <;> by_cases hy2 : y < 0
  · rw [decide_eq_true hx, decide_eq_true hy2]
    have eX : (x.natAbs : Int) = -x := by omega
    have eY : (y.natAbs : Int) = -y := by omega
    rw [eX, eY] at hE
    rw [eY] at h1
    rcases Int.lt_or_eq_of_le h0 with h2 | h2
    · obtain ⟨e1, e2⟩ := fl_neg (x := x) (y := y) (q := n) (r := -m) (by omega) (by have := mul_facts y n; omega) (by omega) (by omega)
      have := dm_tt1 u v x.natAbs y.natAbs n m w hu hv hY hx9 hy9 hn hm h2
      rw [e1, e2] at this
      exact this
    · obtain ⟨e1, e2⟩ := fl_neg (x := x) (y := y) (q := n) (r := -m) (by omega) (by have := mul_facts y n; omega) (by omega) (by omega)
      have := dm_tt0 u v x.natAbs y.natAbs n m w hu hv hY hx9 hy9 hn hm h2.symm
      rw [e1, e2] at this
      exact this
  · rw [decide_eq_true hx, decide_eq_false hy2]
    have eX : (x.natAbs : Int) = -x := by omega
    have eY : (y.natAbs : Int) = y := by omega
    rw [eX, eY] at hE
    rw [eY] at h1
    rcases Int.lt_or_eq_of_le h0 with h2 | h2
    · obtain ⟨e1, e2⟩ := fl_pos (x := x) (y := y) (q := -n - 1) (r := -m + y) (by omega) (by have := mul_facts y n; omega) (by omega) (by omega)
      have := dm_tf1 u v x.natAbs y.natAbs n m w hu hv hY hx9 hy9 hn hm h2
      rw [show -m + (y.natAbs : Int) = -m + y by omega, e1, e2] at this
      exact this
    · obtain ⟨e1, e2⟩ := fl_pos (x := x) (y := y) (q := -n) (r := -m) (by omega) (by have := mul_facts y n; omega) (by omega) (by omega)
      have := dm_tf0 u v x.natAbs y.natAbs n m w hu hv hY hx9 hy9 hn hm h2.symm
      rw [e1, e2] at this
      exact this
  · rw [decide_eq_false hx, decide_eq_true hy2]
    have eX : (x.natAbs : Int) = x := by omega
    have eY : (y.natAbs : Int) = -y := by omega
    rw [eX, eY] at hE
    rw [eY] at h1
    rcases Int.lt_or_eq_of_le h0 with h2 | h2
    · obtain ⟨e1, e2⟩ := fl_neg (x := x) (y := y) (q := -n - 1) (r := m + y) (by omega) (by have := mul_facts y n; omega) (by omega) (by omega)
      have := dm_ft1 u v x.natAbs y.natAbs n m w hu hv hY hx9 hy9 hn hm h2
      rw [show m + -(y.natAbs : Int) = m + y by omega, e1, e2] at this
      exact this
    · obtain ⟨e1, e2⟩ := fl_neg (x := x) (y := y) (q := -n) (r := m) (by omega) (by have := mul_facts y n; omega) (by omega) (by omega)
      have := dm_ft0 u v x.natAbs y.natAbs n m w hu hv hY hx9 hy9 hn hm h2.symm
      rw [e1, e2] at this
      exact this
  · rw [decide_eq_false hx, decide_eq_false hy2]
    have eX : (x.natAbs : Int) = x := by omega
    have eY : (y.natAbs : Int) = y := by omega
    rw [eX, eY] at hE
    rw [eY] at h1
    rcases Int.lt_or_eq_of_le h0 with h2 | h2
    · obtain ⟨e1, e2⟩ := fl_pos (x := x) (y := y) (q := n) (r := m) (by omega) (by have := mul_facts y n; omega) (by omega) (by omega)
      have := dm_ff1 u v x.natAbs y.natAbs n m w hu hv hY hx9 hy9 hn hm h2
      rw [e1, e2] at this
      exact this
    · obtain ⟨e1, e2⟩ := fl_pos (x := x) (y := y) (q := n) (r := m) (by omega) (by have := mul_facts y n; omega) (by omega) (by omega)
      have := dm_ff0 u v x.natAbs y.natAbs n m w hu hv hY hx9 hy9 hn hm h2.symm
      rw [e1, e2] at this
      exact this
theorem DivMod_tx (x y : Int) (w : World) (tb : Tb w) (hx : dn x ≤ 1000) (hy : dn y ≤ 1000) (h0 : y ≠ 0) :
    Calls Tryz.prog 25 #[.string (tx x), .string (tx y)] w (GivesQr (tx (x.fdiv y)) (tx (x.fmod y)) 0 w) := by
  have hx1 := nl_112 (x := (x.natAbs : Int)) (by omega) (by rw [dn_abs]; exact hx)
  have hy1 := nl_112 (x := (y.natAbs : Int)) (by omega) (by rw [dn_abs]; exact hy)
  by_cases h : (tx x).size ≤ 18 ∧ (tx y).size ≤ 18
  · exact DivMod_fast x y w tb h.1 h.2 h0
  · exact DivMod_slow x y w hx hy h h0 (fun u v W hu hv => dm_any u v x y W hu hv h0 (by omega) (by omega))
end Go.Proofs.YtphbfjcaehiboaaGreatDoor
namespace Go.Proofs.YtphbfjcaehiboaaGreatDoor
open Go.RowKit

def PowOK (a : Int) (n : Nat) (z : Int) : Prop := z = a ^ n ∨ (1000 < dn z ∧ 1000 < dn (a ^ n))
def GivesPw (a : Int) (n : Nat) (w : World) (e : Ending) (w' : World) : Prop := ∃ z, GivesN z w e w' ∧ PowOK a n z
theorem dn_one : dn 1 = 1 := by unfold dn; exact Lib.nDigits_small (by decide)
theorem and_one_i64 (i : Nat) (_hi : i < 9223372036854775808) : bits BinOp.and IntKind.i64 (i : Int) 1 = ((i % 2 : Nat) : Int) := by
  show IntKind.i64.wrap ((BitVec.ofInt 64 (i : Int) &&& BitVec.ofInt 64 1).toNat : Nat) = _
  have key : (BitVec.ofInt 64 (i : Int) &&& BitVec.ofInt 64 1).toNat = i % 2 := by
    rw [BitVec.toNat_and, BitVec.toNat_ofInt, show (BitVec.ofInt 64 1).toNat = 2 ^ 1 - 1 from by decide, Nat.and_two_pow_sub_one_eq_mod]
    omega
  rw [key, IntKind.wrap_i64]
  omega
theorem bit_of (n j : Nat) (hn : n < 9223372036854775808) : (bits BinOp.and IntKind.i64 ((n : Int) / 2 ^ j) 1 == 1) = decide (n / 2 ^ j % 2 = 1) := by
  have e : ((n : Int) / 2 ^ j) = ((n / 2 ^ j : Nat) : Int) := by simp
  have h1 := Nat.div_le_self n (2 ^ j)
  rw [e, and_one_i64 _ (by omega)]
  have h2 := Nat.mod_two_eq_zero_or_one (n / 2 ^ j)
  rcases h2 with h | h <;> rw [h] <;> rfl
theorem bl_lt : ∀ (f x : Nat), x < 2 ^ f → x < 2 ^ Lib.bitLenAux f x ∧ Lib.bitLenAux f x ≤ f := by
  intro f
  induction f with
  | zero => intro x h; exact ⟨h, Nat.le_refl _⟩
  | succ f ih =>
    intro x h
    unfold Lib.bitLenAux
    by_cases h0 : x = 0
    · rw [if_pos h0, h0]; exact ⟨by decide, by omega⟩
    · rw [if_neg h0]
      rw [Nat.pow_succ] at h
      obtain ⟨h1, h2⟩ := ih (x / 2) (by omega)
      rw [Nat.pow_add]
      exact ⟨by omega, by omega⟩
theorem pow_half (a : Int) (n i : Nat) : a ^ (n / 2 ^ i) = if n / 2 ^ i % 2 = 1 then a ^ (n / 2 ^ (i + 1)) * a ^ (n / 2 ^ (i + 1)) * a else a ^ (n / 2 ^ (i + 1)) * a ^ (n / 2 ^ (i + 1)) := by
  have e : n / 2 ^ (i + 1) = n / 2 ^ i / 2 := by rw [Nat.pow_succ, Nat.div_div_eq_div_mul]
  rw [e]
  generalize n / 2 ^ i = k
  rw [← Int.pow_add]
  split
  · rw [← Int.pow_succ]; congr 1; omega
  · congr 1; omega
theorem pow_mono1 {a : Int} (ha : 1 ≤ a) {k l : Nat} (h : k ≤ l) : 1 ≤ a ^ k ∧ a ^ k ≤ a ^ l := by
  have hp : ∀ k : Nat, 1 ≤ a ^ k := by
    intro k
    induction k with
    | zero => rw [Int.pow_zero]; omega
    | succ k ih =>
      rw [Int.pow_succ]
      have := Int.mul_le_mul ih ha (by omega) (by omega)
      omega
  refine ⟨hp k, ?_⟩
  obtain ⟨d, rfl⟩ := Nat.le.dest h
  rw [Int.pow_add]
  have := Int.mul_le_mul (Int.le_refl (a ^ k)) (hp d) (by omega) (by have := hp k; omega)
  omega
theorem pow_long {a : Int} (ha : 0 ≤ a) {k l : Nat} (h : k ≤ l) (hd : 1000 < dn (a ^ k)) : 1000 < dn (a ^ l) := by
  by_cases h0 : a = 0
  · subst h0
    cases k with
    | zero => rw [Int.pow_zero, dn_one] at hd; omega
    | succ k => rw [Int.pow_succ, Int.mul_zero, dn_zero] at hd; omega
  · obtain ⟨h1, h2⟩ := pow_mono1 (show 1 ≤ a by omega) h
    have := dn_mono (x := a ^ k) (y := a ^ l) (by omega) h2
    omega
theorem put_slot {W : World} {K : Nat} {v0 v : Value} (h : Slot W K 0 v0) : Slot (W.setCell ⟨K, 0, none⟩ v) K 0 v := ⟨World.cell?_setCell_same _ _ _ h.1, by rw [World.frozen?_setCell]; exact h.2⟩
theorem put_far {W : World} {K k : Nat} {u v : Value} (h : Slot W k 0 u) (hk : k ≠ K) : Slot (W.setCell ⟨K, 0, none⟩ v) k 0 u := ⟨by rw [World.cell?_setCell_other _ _ _ _ (by intro e; injection e; omega)]; exact h.1, by rw [World.frozen?_setCell]; exact h.2⟩
/-- What stays through power's and root's bodies: the box of the argument, that of the result, and the number that is being worked on. -/
structure PS (w W : World) (K : Nat) (u V : Value) (a z : Int) : Prop where
  below : Below w.heap.size w W
  far : w.heap.size + 1 < K
  size : K < W.heap.size
  s : Slot W w.heap.size 0 u
  r : Slot W (w.heap.size + 1) 0 (.slice none 0 0)
  x : Slot W K 0 V
  nu : NatV W u a
  nx : NatV W V z
theorem PS.step {w W W' : World} {K : Nat} {u V : Value} {a z : Int} (h : PS w W K u V a z) (hb : Below W.heap.size W W') : PS w W' K u V a z := by
  have h1 := h.size
  have h2 := h.far
  exact ⟨h.below.trans (hb.mono h.below.size), h2, by have := hb.size; omega, h.s.below hb (by omega), h.r.below hb (by omega), h.x.below hb (by omega), h.nu.below hb, h.nx.below hb⟩
theorem PS.put {w W : World} {K : Nat} {u V : Value} {a z : Int} (h : PS w W K u V a z) {V' : Value} {z' : Int} (h' : NatV W V' z') : PS w (W.setCell ⟨K, 0, none⟩ V') K u V' a z' := by
  have h1 := h.size
  have h2 := h.far
  have hn : ∀ {q : Value} {y : Int}, NatV W q y → NatV (W.setCell ⟨K, 0, none⟩ V') q y := fun hq => hq.store h.x.1 (nat_not_int h.nx) V'
  exact ⟨below_set h.below 0 (by omega) _, h2, by simp; omega, put_far h.s (by omega), put_far h.r (by omega), put_slot h.x, hn h.nu, hn h'⟩
/-- The result is stored. -/
theorem PS.ret {w W : World} {K : Nat} {u V : Value} {a z : Int} (h : PS w W K u V a z) (v' : Value) : NatV (W.setCell ⟨w.heap.size + 1, 0, none⟩ v') V z ∧ Below w.heap.size w (W.setCell ⟨w.heap.size + 1, 0, none⟩ v') ∧ (W.setCell ⟨w.heap.size + 1, 0, none⟩ v').cell? ⟨w.heap.size + 1, 0, none⟩ = some v' :=
  ⟨h.nx.store h.r.1 (fun _ e => by cases e) v', below_set h.below 0 (by omega) _, (put_slot h.r).1⟩
set_option maxHeartbeats 1000000 in
set_option maxRecDepth 100000 in
theorem power_any (u : Value) (a : Int) (n : Nat) (w : World) (hu : NatV w u a) (ha : dn a ≤ 1000) (hn : n < 9223372036854775808) :
    Calls Tryz.prog 70 #[.agg #[u], .int .i64 n] w (GivesPw a n w) := by
  have ha1 := nl_112 hu.1 ha
  have HU := Lib.hid hu
  have HA := Lib.hid ha1
  obtain ⟨b, m, rfl, hm, _, ha0, _, _⟩ := hu.form
  have HM := Lib.hid hm
  have hbl := Tryz.bits_Len n
  rw [show (n : Int).toNat = n from rfl] at hbl
  have BL := Lib.hid (fun w => hbl w (by omega) (by omega))
  obtain ⟨W0, hW0⟩ : ∃ W0, W0 = (w.alloc (.cells #[.slice b m m] 64)).alloc (.cells #[.slice none 0 0] 64) := ⟨_, rfl⟩
  have hb0 : Below w.heap.size w W0 := by rw [hW0]; exact ((Below.refl _ _).alloc (Nat.le_refl _) _).alloc (by simp) _
  have hz0 : W0.heap.size = w.heap.size + 1 + 1 := by rw [hW0]; simp
  have hs0 : Slot W0 w.heap.size 0 (.slice b m m) := by rw [hW0]; exact (slot_new w _ _ _ rfl).below (alloc_below' _ _) (by simp)
  have hr0 : Slot W0 (w.heap.size + 1) 0 (.slice none 0 0) := by rw [hW0]; exact slot_new _ _ _ _ (by rw [World.size_alloc])
  have SM := Lib.hid (small_any 1 W0 (by decide) (by decide))
  have B0 := Lib.hid hb0
  have S0 := Lib.hid hs0
  have R0 := Lib.hid hr0
  have Z0 := Lib.hid hz0
  clear hu hm ha1 hbl hb0 hz0 hs0 hr0
  go_enter Tryz.func70, Tryz.ntmps70
  go_wp2_with fail
  rw [← hW0]
  clear hW0
  refine SM.out.mono ?_
  rintro e w1 ⟨v1, rfl, hv1, hb1⟩
  obtain ⟨c, k, rfl, hk, _, _, _, _⟩ := hv1.form
  have HK := Lib.hid hk
  have hba := alloc_below' w1 (.cells #[.slice c k k] 64)
  have hb2 := hb1.trans (hba.mono hb1.size)
  have B2 := Lib.hid (B0.out.trans (hb2.mono B0.out.size))
  have N2 := Lib.hid (hv1.below hba)
  have X2 := Lib.hid (slot_new w1 (.slice c k k) 64 w1.heap.size rfl)
  have S2 := Lib.hid (S0.out.below hb2 (by rw [Z0.out]; omega))
  have R2 := Lib.hid (R0.out.below hb2 (by rw [Z0.out]; omega))
  have D2 := Lib.hid (show w.heap.size + 1 < w1.heap.size by have := hb1.size; rw [Z0.out] at this; omega)
  have hz2 : (w1.alloc (.cells #[.slice c k k] 64)).heap.size = w1.heap.size + 1 := by simp
  have Z2 := Lib.hid hz2
  obtain ⟨K, hK⟩ : ∃ K, K = w1.heap.size := ⟨_, rfl⟩
  rw [← hK] at X2 D2 Z2
  have HK1 := Lib.hid hK
  clear hv1 hb1 hk hba hb2 hz2 hK
  go_wp2_with fail
  rw [← HK1.out]
  generalize w1.alloc (.cells #[.slice c k k] 64) = W2 at *
  refine (BL.out W2).mono ?_
  rintro e w' ⟨rfl, rfl⟩
  obtain ⟨hbl2, hbl1⟩ := bl_lt 64 n (by omega)
  rw [show Lib.bitLenAux 64 n = Lib.bitLen n from rfl] at hbl1 hbl2
  obtain ⟨L, hL⟩ : ∃ L, L = Lib.bitLen n := ⟨_, rfl⟩
  rw [← hL] at hbl1 hbl2 ⊢
  have PS0 : Hid (PS w w' K (.slice b m m) (.slice c k k) a 1) := ⟨B2.out, D2.out, by rw [Z2.out]; omega, S2.out, R2.out, X2.out, HU.out.below B2.out, N2.out⟩
  have HL2 := Lib.hid hbl2
  clear hL hbl2
  go_wp2_with fail
  go_loopw [6] (fun i wr => ∃ j : Nat, j ≤ L ∧ i = .int .i64 ((j : Int) - 1) ∧ ∃ V, PS w wr K (.slice b m m) V a (a ^ (n / 2 ^ j)) ∧ dn (a ^ (n / 2 ^ j)) ≤ 1000) (fun i _ => (intOf i + 1).toNat)
  case atStart =>
    have e : n / 2 ^ L = 0 := Nat.div_eq_of_lt HL2.out
    refine ⟨L, Nat.le_refl _, rfl, .slice c k k, ?_, ?_⟩ <;> rw [e, Int.pow_zero]
    · exact PS0.out
    · rw [dn_one]; omega
  case round =>
    obtain ⟨j, hj, rfl, V, hps, hd⟩ := hrel
    obtain ⟨d, q, rfl, hq, _, hz0, _, _⟩ := hps.nx.form
    have HQ := Lib.hid hq
    have x0 := hps.x.1
    have PH := Lib.hid hps
    by_cases hc : 1 ≤ j
    · obtain ⟨i, rfl⟩ : ∃ i, j = i + 1 := ⟨j - 1, by omega⟩
      rw [show ((i + 1 : Nat) : Int) - 1 = i by omega]
      have hbit := bit_of n i hn
      have hph := pow_half a n i
      have hnz := nl_112 hz0 hd
      obtain ⟨z, hz⟩ : ∃ z, z = a ^ (n / 2 ^ (i + 1)) := ⟨_, rfl⟩
      rw [← hz] at hph hnz hz0 PH
      have hnz2 := nl_mul hz0 hz0
      have HZ2 := Lib.hid hnz2
      have HPH := Lib.hid hph
      have HNZ := Lib.hid hnz
      clear hps hd hq hz hph hnz hnz2
      by_cases hbt : n / 2 ^ i % 2 = 1
      · rw [decide_eq_true hbt] at hbit
        have HPH2 : Hid (a ^ (n / 2 ^ i) = z * z * a) := by have := HPH.out; rw [if_pos hbt] at this; exact this
        clear HPH hbt
        go_wp2_with fail
        refine (product_any _ _ z z wr PH.out.nx PH.out.nx (by have := HNZ.out; omega) (by have := HNZ.out; omega)).mono ?_
        rintro e w5 ⟨v5, rfl, hv5, hb5⟩
        obtain ⟨a5, n5, rfl, hn5, _, _, _, _⟩ := hv5.form
        have HN5 := Lib.hid hn5
        have P5 := Lib.hid (PH.out.step hb5)
        have P6 := Lib.hid (P5.out.put hv5)
        have y1 := P5.out.x.1
        have y2 := P5.out.x.2
        have y3 := P6.out.x.1
        have y4 := P6.out.s.1
        clear hv5 hb5 hn5 x0
        go_wp2_with fail
        generalize w5.setCell ⟨K, 0, none⟩ (.slice a5 n5 n5) = W6 at *
        refine (product_any _ _ (z * z) a W6 P6.out.nx P6.out.nu (by have := HNZ.out; have := HZ2.out; omega) (by have := HA.out; omega)).mono ?_
        rintro e w7 ⟨v7, rfl, hv7, hb7⟩
        obtain ⟨a7, n7, rfl, hn7, _, _, _, _⟩ := hv7.form
        have HN7 := Lib.hid hn7
        have P7 := Lib.hid (P6.out.step hb7)
        have P8 := Lib.hid (P7.out.put hv7)
        have y5 := P7.out.x.1
        have y6 := P7.out.x.2
        have y7 := P8.out.x.1
        clear hv7 hb7 hn7 y1 y2 y3 y4
        go_wp2_with fail
        generalize w7.setCell ⟨K, 0, none⟩ (.slice a7 n7 n7) = W8 at *
        refine (digits_any _ _ W8 P8.out.nx).mono ?_
        rintro e w9 ⟨rfl, hb9⟩
        have P9 := Lib.hid (P8.out.step hb9)
        have y9 := P9.out.x.1
        clear hb9
        rw [← HPH2.out] at P9 ⊢
        by_cases hl : 1000 < dn (a ^ (n / 2 ^ i))
        · have hok : PowOK a n (a ^ (n / 2 ^ i)) := .inr ⟨hl, pow_long ha0 (Nat.div_le_self _ _) hl⟩
          have HOK := Lib.hid hok
          have hl2 : (1000 : Int) < (dn (a ^ (n / 2 ^ i)) : Int) := by omega
          have q1 := P9.out.r.1
          have q2 := P9.out.r.2
          clear hok hl
          go_wp2
          exact bodyPost_ret (v := .agg #[.slice a7 n7 n7]) (by simp [results, Tryz.results70, go_sem, q1]) rfl ⟨_, ⟨_, rfl, (P9.out.ret _).1, (P9.out.ret _).2.1⟩, HOK.out⟩
        · have hl2 : ¬ (1000 : Int) < (dn (a ^ (n / 2 ^ i)) : Int) := by omega
          go_wp2
          go_roundw
          case rel => exact ⟨i, by omega, by go_num, _, P9.out, by omega⟩
          case measure => simp [intOf]
      · rw [decide_eq_false hbt] at hbit
        have HPH2 : Hid (a ^ (n / 2 ^ i) = z * z) := by have := HPH.out; rw [if_neg hbt] at this; exact this
        clear HPH hbt
        go_wp2_with fail
        refine (product_any _ _ z z wr PH.out.nx PH.out.nx (by have := HNZ.out; omega) (by have := HNZ.out; omega)).mono ?_
        rintro e w5 ⟨v5, rfl, hv5, hb5⟩
        obtain ⟨a7, n7, rfl, hn7, _, _, _, _⟩ := hv5.form
        have HN7 := Lib.hid hn7
        have P5 := Lib.hid (PH.out.step hb5)
        have P8 := Lib.hid (P5.out.put hv5)
        have y1 := P5.out.x.1
        have y2 := P5.out.x.2
        have y3 := P8.out.x.1
        clear hv5 hb5 hn7 x0
        go_wp2_with fail
        generalize w5.setCell ⟨K, 0, none⟩ (.slice a7 n7 n7) = W8 at *
        refine (digits_any _ _ W8 P8.out.nx).mono ?_
        rintro e w9 ⟨rfl, hb9⟩
        have P9 := Lib.hid (P8.out.step hb9)
        have y9 := P9.out.x.1
        clear hb9
        rw [← HPH2.out] at P9 ⊢
        by_cases hl : 1000 < dn (a ^ (n / 2 ^ i))
        · have hok : PowOK a n (a ^ (n / 2 ^ i)) := .inr ⟨hl, pow_long ha0 (Nat.div_le_self _ _) hl⟩
          have HOK := Lib.hid hok
          have hl2 : (1000 : Int) < (dn (a ^ (n / 2 ^ i)) : Int) := by omega
          have q1 := P9.out.r.1
          have q2 := P9.out.r.2
          clear hok hl
          go_wp2
          exact bodyPost_ret (v := .agg #[.slice a7 n7 n7]) (by simp [results, Tryz.results70, go_sem, q1]) rfl ⟨_, ⟨_, rfl, (P9.out.ret _).1, (P9.out.ret _).2.1⟩, HOK.out⟩
        · have hl2 : ¬ (1000 : Int) < (dn (a ^ (n / 2 ^ i)) : Int) := by omega
          go_wp2
          go_roundw
          case rel => exact ⟨i, by omega, by go_num, _, P9.out, by omega⟩
          case measure => simp [intOf]
    · obtain rfl : j = 0 := by omega
      have e1 : n / 2 ^ 0 = n := by rw [Nat.pow_zero, Nat.div_one]
      rw [e1] at PH
      have q1 := PH.out.r.1
      have q2 := PH.out.r.2
      clear hps hd hq
      go_wp2
      exact bodyPost_ret (v := .agg #[.slice d q q]) (by simp [results, Tryz.results70, go_sem, q1]) rfl ⟨_, ⟨_, rfl, (PH.out.ret _).1, (PH.out.ret _).2.1⟩, .inl rfl⟩
end Go.Proofs.YtphbfjcaehiboaaGreatDoor
namespace Go.Proofs.YtphbfjcaehiboaaGreatDoor
open Go.RowKit

theorem GivesX_long {y z : Int} {w : World} {e : Ending} {w' : World} (hy : 1000 < dn y) (hz : 1000 < dn z) (h : GivesX y w e w') : GivesX z w e w' := by
  unfold GivesX at h ⊢
  rw [if_neg (by omega), if_neg (by omega)] at h ⊢
  exact h
theorem neg_pow (x : Int) (n : Nat) : (-x) ^ n = if n % 2 = 1 then -(x ^ n) else x ^ n := by
  induction n with
  | zero => rw [Int.pow_zero, Int.pow_zero, if_neg (by omega)]
  | succ n ih =>
    rw [Int.pow_succ, ih, Int.pow_succ]
    by_cases h : n % 2 = 1
    · rw [if_pos h, if_neg (by omega), Int.neg_mul_neg]
    · rw [if_neg h, if_pos (by omega), Int.mul_neg]
set_option maxHeartbeats 4000000 in
set_option maxRecDepth 100000 in
theorem Pow_f (x : Int) (n : Nat) (w : World) (hx : dn x ≤ 1000) (hn : n < 9223372036854775808) (hsx : decide (x < 0) = false)  :
    Calls Tryz.prog 29 #[.string (tx x), .int .i64 n] w (GivesX (x ^ n) w) := by
  have hpa := parse_tx x w hx
  unfold GivesP at hpa
  rw [hsx] at hpa
  have HP := Lib.hid hpa
  have hpw := fun (u : Value) W (h : NatV W u x.natAbs) => power_any u x.natAbs n W h (by rw [dn_abs]; exact hx) hn
  have PW := Lib.hid hpw
  have hfin : ∀ z w1 e w', PowOK x.natAbs n z → GivesX (z) w1 e w' → GivesX (x ^ n) w1 e w' := fun z w1 e w' h g => by
    have hxp : x ^ n = ((x.natAbs : Int) ^ n) := by
      rw [show (x.natAbs : Int) = x by have := of_decide_eq_false hsx; omega]
    rcases h with h | ⟨h1, h2⟩
    · rw [h] at g; rw [hxp]; exact g
    · refine GivesX_long ?_ ?_ g
      · exact h1
      · rw [hxp]; exact h2
  have FIN := Lib.hid hfin
  have htx : ∀ z W v s, s = decide (z < 0) → NatV W v z.natAbs → Calls Tryz.prog 60 #[.agg #[v, .bool s]] W (GivesX z W) := fun z W v s e h => by subst e; exact text_any v _ W h
  have TX := Lib.hid htx
  have hsg := fun (u : Value) (z : Int) W (h : NatV W u z) => signed_false u z W h
  have SG := Lib.hid hsg
  obtain ⟨X, hX⟩ : ∃ X, X = tx x := ⟨_, rfl⟩
  rw [← hX] at HP ⊢
  have hn0 : (0 : Int) ≤ (n : Int) := by omega
  have HN := Lib.hid hn
  skip
  skip
  clear hpa hpw hfin htx hsg hX hsx hn
  go_enter Tryz.func29, Tryz.ntmps29
  go_wp2_with fail
  refine HP.out.mono ?_
  rintro e w1 ⟨v1, rfl, hv1, hb1⟩
  obtain ⟨a, k, rfl, hk, _, _, _, _⟩ := hv1.form
  have HK := Lib.hid hk
  have hba := alloc_below' w1 (.cells #[.slice a k k, .bool false] 66)
  have C2 := cell2_new w1 (.slice a k k) (.bool false) 66
  have B2 := Lib.hid (hb1.trans (hba.mono hb1.size))
  have N2 := Lib.hid (hv1.below hba)
  have hz2 : (w1.alloc (.cells #[.slice a k k, .bool false] 66)).heap.size = w1.heap.size + 1 := by simp
  have Z2 := Lib.hid hz2
  obtain ⟨K, hK⟩ : ∃ K, K = w1.heap.size := ⟨_, rfl⟩
  rw [← hK] at C2 Z2
  have HK1 := Lib.hid hK
  have c0 := C2.1
  have c1 := C2.2
  clear hv1 hb1 hk hba hz2 hK C2
  go_wp2_with fail
  rw [← HK1.out]
  generalize w1.alloc (.cells #[.slice a k k, .bool false] 66) = W2 at *
  first | (go_region_with (first | (go_at_call 70; refine (PW.out _ _ (by exact N2.out.below (below_drew _))).mono ?_; rintro e w5 ⟨z, ⟨v5, rfl, hv5, hb5⟩, hok⟩; replace hb5 := below_undrew hb5; have d0 := (below_at hb5 0 (show K < W2.heap.size by rw [Z2.out]; omega)).trans c0; have d1 := (below_at hb5 1 (show K < W2.heap.size by rw [Z2.out]; omega)).trans c1; have Z5 : Hid (K < w5.heap.size) := (by have := hb5.size; rw [Z2.out] at this; exact (by omega : K < w5.heap.size)); have V5 := Lib.hid hv5; have OK := Lib.hid hok; have B5 := Lib.hid (B2.out.trans (hb5.mono B2.out.size)); clear hv5 hb5 hok) | (go_at_call 69; refine (SG.out _ _ _ (by exact V5.out)).mono ?_; rintro e w6 ⟨v6, rfl, hv6, hb6⟩; obtain ⟨s6, hs6⟩ : ∃ s6, s6 = decide ((z) < 0) := ⟨_, rfl⟩; rw [← hs6]; have S6 := Lib.hid hs6; have f0 := (below_at hb6 0 Z5.out).trans d0; have f1 := (below_at hb6 1 Z5.out).trans d1; have Z6 : Hid (K < w6.heap.size) := (by have := hb6.size; have := Z5.out; exact (by omega : K < w6.heap.size)); have V6 := Lib.hid hv6; have B6 := Lib.hid (B5.out.trans (hb6.mono B5.out.size)); clear hv6 hb6 hs6) | (go_at_call 60; refine (TX.out _ _ _ _ (by exact S6.out) (by exact V6.out)).mono ?_; rintro e w7 hg; replace hg := FIN.out _ _ _ _ OK.out hg; obtain ⟨rfl, hb7⟩ := hg; obtain ⟨T, hT⟩ : ∃ T, T = (if dn (x ^ n) ≤ 1000 then tx (x ^ n) else ⟨#[]⟩) := ⟨_, rfl⟩; obtain ⟨E, hE⟩ : ∃ E : Int, E = (if dn (x ^ n) ≤ 1000 then 0 else 3) := ⟨_, rfl⟩; rw [← hT, ← hE]; have HT := Lib.hid hT; have HE := Lib.hid hE; have g0 := (below_at hb7 0 Z6.out).trans f0; have g1 := (below_at hb7 1 Z6.out).trans f1; have B7 := Lib.hid (B6.out.trans (hb7.mono B6.out.size)); clear hb7 hT hE))) | fail
  all_goals
    go_wp2
    go_ret2
    exact ⟨by rw [← HT.out, ← HE.out]; rfl, B7.out⟩
set_option maxHeartbeats 4000000 in
set_option maxRecDepth 100000 in
theorem Pow_to (x : Int) (n : Nat) (w : World) (hx : dn x ≤ 1000) (hn : n < 9223372036854775808) (hsx : decide (x < 0) = true) (ho : n % 2 = 1) :
    Calls Tryz.prog 29 #[.string (tx x), .int .i64 n] w (GivesX (x ^ n) w) := by
  have hpa := parse_tx x w hx
  unfold GivesP at hpa
  rw [hsx] at hpa
  have HP := Lib.hid hpa
  have hpw := fun (u : Value) W (h : NatV W u x.natAbs) => power_any u x.natAbs n W h (by rw [dn_abs]; exact hx) hn
  have PW := Lib.hid hpw
  have hfin : ∀ z w1 e w', PowOK x.natAbs n z → GivesX (-z) w1 e w' → GivesX (x ^ n) w1 e w' := fun z w1 e w' h g => by
    have hxp : x ^ n = -((x.natAbs : Int) ^ n) := by
      rw [show x = -(x.natAbs : Int) by have := of_decide_eq_true hsx; omega, neg_pow, Int.natAbs_neg, Int.natAbs_natCast, if_pos ho]
    rcases h with h | ⟨h1, h2⟩
    · rw [h] at g; rw [hxp]; exact g
    · refine GivesX_long ?_ ?_ g
      · rw [dn_neg]; exact h1
      · rw [hxp]; rw [dn_neg]; exact h2
  have FIN := Lib.hid hfin
  have htx : ∀ z W v s, s = decide (z < 0) → NatV W v z.natAbs → Calls Tryz.prog 60 #[.agg #[v, .bool s]] W (GivesX z W) := fun z W v s e h => by subst e; exact text_any v _ W h
  have TX := Lib.hid htx
  have hsg := fun (u : Value) (z : Int) W (h : NatV W u z) => signed_true u z W h
  have SG := Lib.hid hsg
  obtain ⟨X, hX⟩ : ∃ X, X = tx x := ⟨_, rfl⟩
  rw [← hX] at HP ⊢
  have hn0 : (0 : Int) ≤ (n : Int) := by omega
  have HN := Lib.hid hn
  have hn2 : ((n : Int) % 2 == 1) = true := by rw [beq_iff_eq]; omega
  have hn3 : ((n : Int).tmod 2 == 1) = true := by rw [Int.tmod_eq_emod_of_nonneg hn0]; exact hn2
  clear hpa hpw hfin htx hsg hX hsx hn
  go_enter Tryz.func29, Tryz.ntmps29
  go_wp2_with fail
  refine HP.out.mono ?_
  rintro e w1 ⟨v1, rfl, hv1, hb1⟩
  obtain ⟨a, k, rfl, hk, _, _, _, _⟩ := hv1.form
  have HK := Lib.hid hk
  have hba := alloc_below' w1 (.cells #[.slice a k k, .bool true] 66)
  have C2 := cell2_new w1 (.slice a k k) (.bool true) 66
  have B2 := Lib.hid (hb1.trans (hba.mono hb1.size))
  have N2 := Lib.hid (hv1.below hba)
  have hz2 : (w1.alloc (.cells #[.slice a k k, .bool true] 66)).heap.size = w1.heap.size + 1 := by simp
  have Z2 := Lib.hid hz2
  obtain ⟨K, hK⟩ : ∃ K, K = w1.heap.size := ⟨_, rfl⟩
  rw [← hK] at C2 Z2
  have HK1 := Lib.hid hK
  have c0 := C2.1
  have c1 := C2.2
  clear hv1 hb1 hk hba hz2 hK C2
  go_wp2_with fail
  rw [← HK1.out]
  generalize w1.alloc (.cells #[.slice a k k, .bool true] 66) = W2 at *
  go_region_held3 (fun W => W.cell? ⟨K, 0, none⟩ = some (.slice a k k) ∧ W.cell? ⟨K, 1, none⟩ = some (.bool true)) (first | exact ⟨c0, c1⟩ | exact ⟨d0, d1⟩ | exact ⟨f0, f1⟩ | exact ⟨g0, g1⟩) (first | (go_at_call 70; refine (PW.out _ _ (by exact N2.out.below (below_drew _))).mono ?_; rintro e w5 ⟨z, ⟨v5, rfl, hv5, hb5⟩, hok⟩; replace hb5 := below_undrew hb5; have d0 := (below_at hb5 0 (show K < W2.heap.size by rw [Z2.out]; omega)).trans c0; have d1 := (below_at hb5 1 (show K < W2.heap.size by rw [Z2.out]; omega)).trans c1; have Z5 : Hid (K < w5.heap.size) := (by have := hb5.size; rw [Z2.out] at this; exact (by omega : K < w5.heap.size)); have V5 := Lib.hid hv5; have OK := Lib.hid hok; have B5 := Lib.hid (B2.out.trans (hb5.mono B2.out.size)); clear hv5 hb5 hok) | (go_at_call 69; refine (SG.out _ _ _ (by exact V5.out)).mono ?_; rintro e w6 ⟨v6, rfl, hv6, hb6⟩; obtain ⟨s6, hs6⟩ : ∃ s6, s6 = decide ((-z) < 0) := ⟨_, rfl⟩; rw [← hs6]; have S6 := Lib.hid hs6; have f0 := (below_at hb6 0 Z5.out).trans d0; have f1 := (below_at hb6 1 Z5.out).trans d1; have Z6 : Hid (K < w6.heap.size) := (by have := hb6.size; have := Z5.out; exact (by omega : K < w6.heap.size)); have V6 := Lib.hid hv6; have B6 := Lib.hid (B5.out.trans (hb6.mono B5.out.size)); clear hv6 hb6 hs6) | (go_at_call 60; refine (TX.out _ _ _ _ (by exact S6.out) (by exact V6.out)).mono ?_; rintro e w7 hg; replace hg := FIN.out _ _ _ _ OK.out hg; obtain ⟨rfl, hb7⟩ := hg; obtain ⟨T, hT⟩ : ∃ T, T = (if dn (x ^ n) ≤ 1000 then tx (x ^ n) else ⟨#[]⟩) := ⟨_, rfl⟩; obtain ⟨E, hE⟩ : ∃ E : Int, E = (if dn (x ^ n) ≤ 1000 then 0 else 3) := ⟨_, rfl⟩; rw [← hT, ← hE]; have HT := Lib.hid hT; have HE := Lib.hid hE; have g0 := (below_at hb7 0 Z6.out).trans f0; have g1 := (below_at hb7 1 Z6.out).trans f1; have B7 := Lib.hid (B6.out.trans (hb7.mono B6.out.size)); clear hb7 hT hE))
  all_goals
    go_wp2
    go_ret2
    exact ⟨by rw [← HT.out, ← HE.out]; rfl, B7.out⟩
set_option maxHeartbeats 4000000 in
set_option maxRecDepth 100000 in
theorem Pow_te (x : Int) (n : Nat) (w : World) (hx : dn x ≤ 1000) (hn : n < 9223372036854775808) (hsx : decide (x < 0) = true) (ho : ¬ n % 2 = 1) :
    Calls Tryz.prog 29 #[.string (tx x), .int .i64 n] w (GivesX (x ^ n) w) := by
  have hpa := parse_tx x w hx
  unfold GivesP at hpa
  rw [hsx] at hpa
  have HP := Lib.hid hpa
  have hpw := fun (u : Value) W (h : NatV W u x.natAbs) => power_any u x.natAbs n W h (by rw [dn_abs]; exact hx) hn
  have PW := Lib.hid hpw
  have hfin : ∀ z w1 e w', PowOK x.natAbs n z → GivesX (z) w1 e w' → GivesX (x ^ n) w1 e w' := fun z w1 e w' h g => by
    have hxp : x ^ n = ((x.natAbs : Int) ^ n) := by
      rw [show x = -(x.natAbs : Int) by have := of_decide_eq_true hsx; omega, neg_pow, Int.natAbs_neg, Int.natAbs_natCast, if_neg ho]
    rcases h with h | ⟨h1, h2⟩
    · rw [h] at g; rw [hxp]; exact g
    · refine GivesX_long ?_ ?_ g
      · exact h1
      · rw [hxp]; exact h2
  have FIN := Lib.hid hfin
  have htx : ∀ z W v s, s = decide (z < 0) → NatV W v z.natAbs → Calls Tryz.prog 60 #[.agg #[v, .bool s]] W (GivesX z W) := fun z W v s e h => by subst e; exact text_any v _ W h
  have TX := Lib.hid htx
  have hsg := fun (u : Value) (z : Int) W (h : NatV W u z) => signed_false u z W h
  have SG := Lib.hid hsg
  obtain ⟨X, hX⟩ : ∃ X, X = tx x := ⟨_, rfl⟩
  rw [← hX] at HP ⊢
  have hn0 : (0 : Int) ≤ (n : Int) := by omega
  have HN := Lib.hid hn
  have hn2 : ((n : Int) % 2 == 1) = false := by rw [beq_eq_false_iff_ne]; omega
  have hn3 : ((n : Int).tmod 2 == 1) = false := by rw [Int.tmod_eq_emod_of_nonneg hn0]; exact hn2
  clear hpa hpw hfin htx hsg hX hsx hn
  go_enter Tryz.func29, Tryz.ntmps29
  go_wp2_with fail
  refine HP.out.mono ?_
  rintro e w1 ⟨v1, rfl, hv1, hb1⟩
  obtain ⟨a, k, rfl, hk, _, _, _, _⟩ := hv1.form
  have HK := Lib.hid hk
  have hba := alloc_below' w1 (.cells #[.slice a k k, .bool true] 66)
  have C2 := cell2_new w1 (.slice a k k) (.bool true) 66
  have B2 := Lib.hid (hb1.trans (hba.mono hb1.size))
  have N2 := Lib.hid (hv1.below hba)
  have hz2 : (w1.alloc (.cells #[.slice a k k, .bool true] 66)).heap.size = w1.heap.size + 1 := by simp
  have Z2 := Lib.hid hz2
  obtain ⟨K, hK⟩ : ∃ K, K = w1.heap.size := ⟨_, rfl⟩
  rw [← hK] at C2 Z2
  have HK1 := Lib.hid hK
  have c0 := C2.1
  have c1 := C2.2
  clear hv1 hb1 hk hba hz2 hK C2
  go_wp2_with fail
  rw [← HK1.out]
  generalize w1.alloc (.cells #[.slice a k k, .bool true] 66) = W2 at *
  go_region_held3 (fun W => W.cell? ⟨K, 0, none⟩ = some (.slice a k k) ∧ W.cell? ⟨K, 1, none⟩ = some (.bool true)) (first | exact ⟨c0, c1⟩ | exact ⟨d0, d1⟩ | exact ⟨f0, f1⟩ | exact ⟨g0, g1⟩) (first | (go_at_call 70; refine (PW.out _ _ (by exact N2.out.below (below_drew _))).mono ?_; rintro e w5 ⟨z, ⟨v5, rfl, hv5, hb5⟩, hok⟩; replace hb5 := below_undrew hb5; have d0 := (below_at hb5 0 (show K < W2.heap.size by rw [Z2.out]; omega)).trans c0; have d1 := (below_at hb5 1 (show K < W2.heap.size by rw [Z2.out]; omega)).trans c1; have Z5 : Hid (K < w5.heap.size) := (by have := hb5.size; rw [Z2.out] at this; exact (by omega : K < w5.heap.size)); have V5 := Lib.hid hv5; have OK := Lib.hid hok; have B5 := Lib.hid (B2.out.trans (hb5.mono B2.out.size)); clear hv5 hb5 hok) | (go_at_call 69; refine (SG.out _ _ _ (by exact V5.out)).mono ?_; rintro e w6 ⟨v6, rfl, hv6, hb6⟩; obtain ⟨s6, hs6⟩ : ∃ s6, s6 = decide ((z) < 0) := ⟨_, rfl⟩; rw [← hs6]; have S6 := Lib.hid hs6; have f0 := (below_at hb6 0 Z5.out).trans d0; have f1 := (below_at hb6 1 Z5.out).trans d1; have Z6 : Hid (K < w6.heap.size) := (by have := hb6.size; have := Z5.out; exact (by omega : K < w6.heap.size)); have V6 := Lib.hid hv6; have B6 := Lib.hid (B5.out.trans (hb6.mono B5.out.size)); clear hv6 hb6 hs6) | (go_at_call 60; refine (TX.out _ _ _ _ (by exact S6.out) (by exact V6.out)).mono ?_; rintro e w7 hg; replace hg := FIN.out _ _ _ _ OK.out hg; obtain ⟨rfl, hb7⟩ := hg; obtain ⟨T, hT⟩ : ∃ T, T = (if dn (x ^ n) ≤ 1000 then tx (x ^ n) else ⟨#[]⟩) := ⟨_, rfl⟩; obtain ⟨E, hE⟩ : ∃ E : Int, E = (if dn (x ^ n) ≤ 1000 then 0 else 3) := ⟨_, rfl⟩; rw [← hT, ← hE]; have HT := Lib.hid hT; have HE := Lib.hid hE; have g0 := (below_at hb7 0 Z6.out).trans f0; have g1 := (below_at hb7 1 Z6.out).trans f1; have B7 := Lib.hid (B6.out.trans (hb7.mono B6.out.size)); clear hb7 hT hE))
  all_goals
    go_wp2
    go_ret2
    exact ⟨by rw [← HT.out, ← HE.out]; rfl, B7.out⟩
theorem Pow_tx (x : Int) (n : Nat) (w : World) (hx : dn x ≤ 1000) (hn : n < 9223372036854775808) :
    Calls Tryz.prog 29 #[.string (tx x), .int .i64 n] w (GivesX (x ^ n) w) := by
  cases h : decide (x < 0)
  · exact Pow_f x n w hx hn h
  · by_cases ho : n % 2 = 1
    · exact Pow_to x n w hx hn h ho
    · exact Pow_te x n w hx hn h ho
end Go.Proofs.YtphbfjcaehiboaaGreatDoor
namespace Go.Proofs.YtphbfjcaehiboaaGreatDoor
open Go.RowKit

/-- r is the integer root of a. -/
def IsRoot (a r : Int) : Prop := 0 ≤ r ∧ r * r ≤ a ∧ a < (r + 1) * (r + 1)
theorem IsRoot.unique {a r s : Int} (h : IsRoot a r) (k : IsRoot a s) : r = s := by
  obtain ⟨h1, h2, h3⟩ := h
  obtain ⟨k1, k2, k3⟩ := k
  rcases Int.lt_trichotomy r s with e | e | e
  · have := Int.mul_le_mul (show r + 1 ≤ s by omega) (show r + 1 ≤ s by omega) (by omega) (by omega)
    omega
  · exact e
  · have := Int.mul_le_mul (show s + 1 ≤ r by omega) (show s + 1 ≤ r by omega) (by omega) (by omega)
    omega
theorem newton_ge {a x r : Int} (hx : 0 < x) (hr : r * r ≤ a) : r ≤ (x + a / x) / 2 := by
  have h1 : x * (2 * r - x) ≤ a := by
    rcases Int.le_total 0 (r - x) with h | h
    · have := Int.mul_nonneg h h
      rw [Int.mul_sub, Int.sub_mul, Int.sub_mul] at this
      rw [Int.mul_sub, ← Int.mul_assoc, Int.mul_comm x 2, Int.mul_assoc, Int.mul_comm x r]
      rw [Int.mul_comm x r] at this
      omega
    · have := Int.mul_nonneg (show 0 ≤ x - r by omega) (show 0 ≤ x - r by omega)
      rw [Int.mul_sub, Int.sub_mul, Int.sub_mul] at this
      rw [Int.mul_sub, ← Int.mul_assoc, Int.mul_comm x 2, Int.mul_assoc, Int.mul_comm x r]
      rw [Int.mul_comm x r] at this
      omega
  have h2 : 2 * r - x ≤ a / x := (Int.le_ediv_iff_mul_le hx).2 (by rw [Int.mul_comm]; exact h1)
  omega
theorem newton_end {a x : Int} (hx : 0 < x) (h : x ≤ (x + a / x) / 2) : x * x ≤ a := by
  have h2 : x ≤ a / x := by omega
  exact (Int.le_ediv_iff_mul_le hx).1 h2
theorem root_ex (n : Nat) : ∃ r, IsRoot n r := by
  induction n with
  | zero => exact ⟨0, by unfold IsRoot; decide⟩
  | succ n ih =>
    obtain ⟨r, h0, h1, h2⟩ := ih
    by_cases h : ((n + 1 : Nat) : Int) < (r + 1) * (r + 1)
    · exact ⟨r, h0, by omega, h⟩
    · refine ⟨r + 1, by omega, by omega, ?_⟩
      rw [Int.mul_add (r + 1 + 1), Int.add_mul]
      have e : (r + 1) * (r + 1) = (n : Int) + 1 := by omega
      omega
/-- A one and k zeros. -/
def ones (k : Nat) : List UInt8 := 49 :: List.replicate k 48
theorem rep_zero (k : Nat) : Lib.repeatL [48] k = List.replicate k 48 := by
  induction k with
  | zero => rfl
  | succ k ih => show [48] ++ Lib.repeatL [48] k = _; rw [ih]; rfl
theorem vald_ones (k : Nat) : vald (ones k) = 10 ^ k := by
  induction k with
  | zero => rfl
  | succ k ih =>
    have e : ones (k + 1) = ones k ++ [48] := by
      unfold ones
      rw [List.replicate_succ', List.cons_append]
    rw [e, vald_snoc, ih, Nat.pow_succ]
    have : (48 : UInt8).toNat - 48 = 0 := by decide
    omega
theorem dec_ones (k : Nat) : Lib.decDigits (10 ^ k) = ones k := by
  have := dec_vald (ones k).length (ones k) rfl (by unfold ones; simp) (fun c hc => by
    unfold ones at hc
    rcases List.mem_cons.1 hc with h | h
    · subst h; rfl
    · rw [List.eq_of_mem_replicate h]; rfl) (fun h => by unfold ones at h; simp at h)
  rw [← vald_ones]; exact this
theorem td_ones (k : Nat) (R : ByteArray) (hR : R = ⟨(Lib.repeatL [48] k).toArray⟩) : ((⟨#[49]⟩ : ByteArray) ++ R) = td (10 ^ k) := by
  apply ba_ext
  rw [td_list, dec_ones, hR, rep_zero]
  simp [ByteArray.data_append, ones]
theorem pow10_ten (k : Nat) : ((10 ^ k : Nat) : Int) = Ten.bp k := by unfold Ten.bp; simp
theorem dn_bp (k : Nat) : dn (Ten.bp k) = k + 1 := by rw [← pow10_ten]; unfold dn; rw [Int.natAbs_natCast, ← Lib.decDigits_length, dec_ones]; unfold ones; simp
/-- It is greater than the root. -/
theorem start_gt {a : Int} (h0 : 0 ≤ a) : a < Ten.bp ((dn a + 1) / 2) * Ten.bp ((dn a + 1) / 2) := by
  have h1 := dn_lt h0
  have h2 := Ten.bp_mono (show dn a ≤ (dn a + 1) / 2 + (dn a + 1) / 2 by omega)
  rw [Ten.bp_add] at h2
  omega
theorem lt_of_sq {r x a : Int} (hx : 0 ≤ x) (hr : r * r ≤ a) (h : a < x * x) : r ≤ x := by
  rcases Int.le_total r x with h1 | h1
  · exact h1
  · have := Int.mul_le_mul h1 h1 hx (by omega)
    omega
def GivesRt (a : Int) (w : World) (e : Ending) (w' : World) : Prop := ∃ r, GivesN r w e w' ∧ IsRoot a r
theorem root_zero (u : Value) (a : Int) (w : World) (hu : NatV w u a) (h0 : a = 0) :
    Calls Tryz.prog 99 #[.agg #[u]] w (GivesRt a w) := by
  have HU := Lib.hid hu
  obtain ⟨b, m, rfl, hm, _, ha0, _, _⟩ := hu.form
  have HM := Lib.hid hm
  obtain ⟨W0, hW0⟩ : ∃ W0, W0 = (w.alloc (.cells #[.slice b m m] 64)).alloc (.cells #[.slice none 0 0] 64) := ⟨_, rfl⟩
  have hb0 : Below w.heap.size w W0 := by rw [hW0]; exact ((Below.refl _ _).alloc (Nat.le_refl _) _).alloc (by simp) _
  have hs0 : Slot W0 w.heap.size 0 (.slice b m m) := by rw [hW0]; exact (slot_new w _ _ _ rfl).below (alloc_below' _ _) (by simp)
  have hr0 : Slot W0 (w.heap.size + 1) 0 (.slice none 0 0) := by rw [hW0]; exact slot_new _ _ _ _ (by rw [World.size_alloc])
  have hba := alloc_below' W0 (.cells #[.slice b m m] 64)
  have hz0 : W0.heap.size = w.heap.size + 1 + 1 := by rw [hW0]; simp
  have IZ := Lib.hid (isZero_any _ a W0 (hu.below hb0))
  have B1 := Lib.hid (hb0.trans (hba.mono hb0.size))
  have c0 := hs0.1
  have c1 := (hs0.below hba (by omega)).1
  have R1 := Lib.hid (hr0.below hba (by omega))
  have q1 := R1.out.1
  have q2 := R1.out.2
  have HZ : Hid (decide (a = 0) = true) := decide_eq_true h0
  have HR : Hid (IsRoot a a) := by subst h0; show IsRoot 0 0; unfold IsRoot; decide
  clear hu hm hb0 hs0 hr0 hba hz0 h0
  go_enter Tryz.func99, Tryz.ntmps99
  go_wp2_with fail
  rw [← hW0]
  clear hW0
  refine IZ.out.mono ?_
  rintro e w' ⟨rfl, rfl⟩
  rw [HZ.out]
  generalize W0.alloc (.cells #[.slice b m m] 64) = W1 at *
  go_wp2
  exact bodyPost_ret (v := .agg #[.slice b m m]) (by simp [results, Tryz.results99, go_sem, q1]) rfl ⟨_, ⟨_, rfl, (HU.out.below B1.out).store R1.out.1 (fun _ e => by cases e) _, below_set B1.out 0 (by omega) _⟩, HR.out⟩
set_option maxHeartbeats 2000000 in
set_option maxRecDepth 100000 in
theorem root_pos (u : Value) (a : Int) (w : World) (hu : NatV w u a) (h0 : 0 < a) (hd : dn a ≤ 1000) :
    Calls Tryz.prog 99 #[.agg #[u]] w (GivesRt a w) := by
  have HU := Lib.hid hu
  have hna := nl_112 hu.1 hd
  obtain ⟨b, m, rfl, hm, _, ha0, _, _⟩ := hu.form
  have HM := Lib.hid hm
  obtain ⟨r, hroot⟩ := root_ex a.toNat
  rw [show ((a.toNat : Nat) : Int) = a by omega] at hroot
  have hr2 := hroot.2.1
  obtain ⟨W0, hW0⟩ : ∃ W0, W0 = (w.alloc (.cells #[.slice b m m] 64)).alloc (.cells #[.slice none 0 0] 64) := ⟨_, rfl⟩
  have hb0 : Below w.heap.size w W0 := by rw [hW0]; exact ((Below.refl _ _).alloc (Nat.le_refl _) _).alloc (by simp) _
  have hs0 : Slot W0 w.heap.size 0 (.slice b m m) := by rw [hW0]; exact (slot_new w _ _ _ rfl).below (alloc_below' _ _) (by simp)
  have hr0 : Slot W0 (w.heap.size + 1) 0 (.slice none 0 0) := by rw [hW0]; exact slot_new _ _ _ _ (by rw [World.size_alloc])
  have hba := alloc_below' W0 (.cells #[.slice b m m] 64)
  have hz0 : W0.heap.size = w.heap.size + 1 + 1 := by rw [hW0]; simp
  have IZ := Lib.hid (isZero_any _ a W0 (hu.below hb0))
  have B1 := Lib.hid (hb0.trans (hba.mono hb0.size))
  have c0 := hs0.1
  have S1 := Lib.hid (hs0.below hba (by omega))
  have c1 := S1.out.1
  have R1 := Lib.hid (hr0.below hba (by omega))
  have Z1 := Lib.hid (show w.heap.size + 1 < (W0.alloc (.cells #[.slice b m m] 64)).heap.size by simp; omega)
  have HZ : Hid (decide (a = 0) = false) := decide_eq_false (by omega)
  obtain ⟨k, hk⟩ : ∃ k, k = (dn a + 1) / 2 := ⟨_, rfl⟩
  have hk5 : k ≤ 500 := by omega
  have hst := start_gt hu.1
  rw [← hk] at hst
  have DG := Lib.hid (fun W (h : Below w.heap.size w W) => digits_any _ a W (hu.below h))
  have RP := Lib.hid (fun W => Tryz.strings_Repeat ⟨#[48]⟩ k W (by omega) (by show 1 * k ≤ _; omega))
  have hco := fun W => collect_any (10 ^ k) W (by rw [td_size, ← Lib.decDigits_length, dec_ones]; unfold ones; simp; omega)
  have CO := Lib.hid hco
  have HK : Hid ((((dn a : Nat) : Int) + 1) / 2 = (k : Int)) := by show _ = _; omega
  have HND := Lib.hid hd
  have hdn1 : (0 : Int) ≤ ((dn a : Nat) : Int) := by omega
  have hdn2 : ((dn a : Nat) : Int) ≤ 1000 := by omega
  obtain ⟨D, hD⟩ : ∃ D : Int, D = ((dn a : Nat) : Int) := ⟨_, rfl⟩
  rw [← hD] at hdn1 hdn2 HK
  have HD := Lib.hid hD
  have HNA := Lib.hid hna
  have HST := Lib.hid hst
  have HRT := Lib.hid hroot
  have HR2 := Lib.hid hr2
  clear hu hm hb0 hs0 hr0 hba hz0 h0 hna hroot hr2 hst hco hk hd hD
  go_enter Tryz.func99, Tryz.ntmps99
  go_wp2_with fail
  rw [← hW0]
  clear hW0
  refine IZ.out.mono ?_
  rintro e w' ⟨rfl, rfl⟩
  rw [HZ.out]
  clear IZ c0
  generalize W0.alloc (.cells #[.slice b m m] 64) = W1 at *
  go_wp2_with fail
  refine (DG.out W1 B1.out).mono ?_
  rintro e w2 ⟨rfl, hb2⟩
  have B2 := Lib.hid (B1.out.trans (hb2.mono B1.out.size))
  have S2 := Lib.hid (S1.out.below hb2 (by have := Z1.out; omega))
  have R2 := Lib.hid (R1.out.below hb2 Z1.out)
  have Z2 : Hid (w.heap.size + 1 < w2.heap.size) := by have := hb2.size; have := Z1.out; show _ < _; omega
  rw [← HD.out]
  clear hb2 c1
  go_wp2_with fail
  rw [HK.out]
  refine (RP.out w2).mono ?_
  rintro e w3 ⟨rfl, hb3⟩
  obtain ⟨R, hR⟩ : ∃ R : ByteArray, R = ⟨(Lib.repeatL [48] k).toArray⟩ := ⟨_, rfl⟩
  rw [← hR]
  have h9 : ¬ 9223372036854775807 < 1 + R.size := by rw [hR, rep_zero]; simp [ByteArray.size]; omega
  have HR := Lib.hid hR
  have B3 := Lib.hid (B2.out.trans (hb3.mono B2.out.size))
  have S3 := Lib.hid (S2.out.below hb3 (by have := Z2.out; omega))
  have R3 := Lib.hid (R2.out.below hb3 Z2.out)
  have Z3 : Hid (w.heap.size + 1 < w3.heap.size) := by have := hb3.size; have := Z2.out; show _ < _; omega
  clear hb3 hR
  go_wp2_with fail
  rw [td_ones k R HR.out]
  refine (CO.out w3).mono ?_
  rintro e w4 ⟨v4, rfl, hv4, hb4⟩
  rw [pow10_ten] at hv4
  obtain ⟨c4, n4, rfl, hn4, _, _, _, _⟩ := hv4.form
  have HN4 := Lib.hid hn4
  have hba := alloc_below' w4 (.cells #[.slice c4 n4 n4] 64)
  have hb5 := hb4.trans (hba.mono hb4.size)
  have hz4 : w.heap.size + 1 < w4.heap.size := by have := hb4.size; have := Z3.out; omega
  have PS0 : Hid (PS w (w4.alloc (.cells #[.slice c4 n4 n4] 64)) w4.heap.size (.slice b m m) (.slice c4 n4 n4) a (Ten.bp k)) := ⟨B3.out.trans (hb5.mono B3.out.size), hz4, by simp, S3.out.below hb5 (by have := Z3.out; omega), R3.out.below hb5 Z3.out, slot_new _ _ _ _ rfl, HU.out.below (B3.out.trans (hb5.mono B3.out.size)), hv4.below hba⟩
  obtain ⟨K, hK⟩ : ∃ K, K = w4.heap.size := ⟨_, rfl⟩
  rw [← hK] at PS0
  have HK4 := Lib.hid hK
  clear hv4 hb4 hn4 hba hb5 hz4 hK h9
  go_wp2_with fail
  rw [← HK4.out]
  generalize w4.alloc (.cells #[.slice c4 n4 n4] 64) = W5 at *
  go_loopg [18] (Ten.bp k).toNat (fun gk v wr => ∃ V x, PS w wr K (.slice b m m) V a x ∧ 0 < x ∧ x ≤ Ten.bp 500 ∧ r ≤ x ∧ x.toNat ≤ gk)
  case atStart =>
    refine ⟨_, _, PS0.out, Ten.bp_pos k, Ten.bp_mono hk5, lt_of_sq (Int.le_of_lt (Ten.bp_pos k)) HR2.out HST.out, Nat.le_refl _⟩
  case round =>
    obtain ⟨V, x, hps, hx0, hx5, hrx, hgk⟩ := hrel
    obtain ⟨d, q, rfl, hq, _, _, _, _⟩ := hps.nx.form
    have HQ := Lib.hid hq
    have hxn : nl x ≤ 112 := nl_112 (by omega) (by
      have := dn_mono (x := x) (y := Ten.bp 500) (by omega) hx5
      have e := dn_bp 500
      omega)
    have hqx : a / x ≤ a := Int.ediv_le_self _ ha0
    have hq0 : 0 ≤ a / x := Int.ediv_nonneg ha0 (by omega)
    have hqn : nl (a / x) ≤ 112 := Nat.le_trans (nl_mono ha0 hqx) HNA.out
    have hng := newton_ge (a := a) hx0 HR2.out
    have hne := newton_end (a := a) hx0
    have hsn := nl_add (x := x) (y := a / x) (by omega) hq0
    have x0 := hps.x.1
    have s0 := hps.s.1
    have PH := Lib.hid hps
    have HX0 := Lib.hid hx0
    have HX5 := Lib.hid hx5
    have HXN := Lib.hid hxn
    have HQN := Lib.hid hqn
    have HNG := Lib.hid hng
    have HNE := Lib.hid hne
    have HSN := Lib.hid hsn
    have HQ0 := Lib.hid hq0
    have HRX := Lib.hid hrx
    have HGK := Lib.hid hgk
    clear hps hx0 hx5 hxn hqx hqn hng hne hsn hq0 hq hrx hgk
    go_wp2_with fail
    refine (divide_any _ _ a x wr PH.out.nu PH.out.nx HX0.out (by have := HNA.out; omega)).mono ?_
    rintro e w6 ⟨vq, vr, rfl, hvq, hvr, hb6⟩
    obtain ⟨cq, nq, rfl, hnq, _, _, _, _⟩ := hvq.form
    obtain ⟨cr, nr, rfl, hnr, _, _, _, _⟩ := hvr.form
    have HNQ := Lib.hid hnq
    have HNR := Lib.hid hnr
    have g1 := alloc_below' w6 (.cells #[.slice cq nq nq] 64)
    have g2 := alloc_below' (w6.alloc (.cells #[.slice cq nq nq] 64)) (.cells #[.slice cr nr nr] 64)
    have g3 := g1.trans (g2.mono (by simp))
    have P7 := Lib.hid ((PH.out.step hb6).step g3)
    have Q7 := Lib.hid (hvq.below g3)
    have T7 := Lib.hid ((slot_new w6 (.slice cq nq nq) 64 w6.heap.size rfl).below g2 (by simp))
    have Z7 : Hid (w6.heap.size < ((w6.alloc (.cells #[.slice cq nq nq] 64)).alloc (.cells #[.slice cr nr nr] 64)).heap.size) := by show _ < _; simp; omega
    have x1 := P7.out.x.1
    have t1 := T7.out.1
    obtain ⟨K6, hK6⟩ : ∃ K6, K6 = w6.heap.size := ⟨_, rfl⟩
    rw [← hK6] at T7 t1 Z7
    have HK6 := Lib.hid hK6
    clear hvq hvr hb6 hnq hnr g1 g2 g3 hK6 x0 s0
    go_wp2_with fail
    rw [← HK6.out]
    generalize (w6.alloc (.cells #[.slice cq nq nq] 64)).alloc (.cells #[.slice cr nr nr] 64) = W7 at *
    refine (sum_any _ _ x (a / x) W7 P7.out.nx Q7.out (by have := HXN.out; omega) (by have := HQN.out; omega)).mono ?_
    rintro e w8 ⟨v8, rfl, hv8, hb8⟩
    have P8 := Lib.hid (P7.out.step hb8)
    have V8 := Lib.hid hv8
    clear hv8 hb8 x1 t1 T7 Z7 Q7
    go_wp2_with fail
    refine (small_any 2 w8 (by decide) (by decide)).mono ?_
    rintro e w9 ⟨v9, rfl, hv9, hb9⟩
    have P9 := Lib.hid (P8.out.step hb9)
    have V9 := Lib.hid (V8.out.below hb9)
    have U9 := Lib.hid hv9
    clear hv9 hb9
    go_wp2_with fail
    refine (divide_any _ _ (x + a / x) 2 w9 V9.out U9.out (by decide) (by have := HSN.out; have := HXN.out; have := HQN.out; omega)).mono ?_
    rintro e wa ⟨vy, vz, rfl, hvy, hvz, hba⟩
    obtain ⟨y, hy⟩ : ∃ y, y = (x + a / x) / 2 := ⟨_, rfl⟩
    rw [← hy] at hvy
    obtain ⟨cy, ny, rfl, hny, _, _, _, _⟩ := hvy.form
    obtain ⟨cz, nz, rfl, hnz, _, _, _, _⟩ := hvz.form
    have HY := Lib.hid hy
    have HNY := Lib.hid hny
    have HNZ := Lib.hid hnz
    have g1 := alloc_below' wa (.cells #[.slice cy ny ny] 64)
    have g2 := alloc_below' (wa.alloc (.cells #[.slice cy ny ny] 64)) (.cells #[.slice cz nz nz] 64)
    have g3 := g1.trans (g2.mono (by simp))
    have PA := Lib.hid ((P9.out.step hba).step g3)
    have YA := Lib.hid (hvy.below g3)
    have TA := Lib.hid ((slot_new wa (.slice cy ny ny) 64 wa.heap.size rfl).below g2 (by simp))
    have ZA : Hid (wa.heap.size < ((wa.alloc (.cells #[.slice cy ny ny] 64)).alloc (.cells #[.slice cz nz nz] 64)).heap.size) := by show _ < _; simp; omega
    have x1 := PA.out.x.1
    have t1 := TA.out.1
    obtain ⟨KA, hKA⟩ : ∃ KA, KA = wa.heap.size := ⟨_, rfl⟩
    rw [← hKA] at TA t1 ZA
    have HKA := Lib.hid hKA
    clear hvy hvz hba hny hnz g1 g2 g3 hKA hy
    go_wp2_with fail
    rw [← HKA.out]
    generalize (wa.alloc (.cells #[.slice cy ny ny] 64)).alloc (.cells #[.slice cz nz nz] 64) = WA at *
    refine (compare_any _ _ y x WA YA.out PA.out.nx).mono ?_
    rintro e wb ⟨rfl, hbb⟩
    have PB := Lib.hid (PA.out.step hbb)
    have YB := Lib.hid (YA.out.below hbb)
    have TB := Lib.hid (TA.out.below hbb ZA.out)
    have x2 := PB.out.x.1
    have x3 := PB.out.x.2
    have t2 := TB.out.1
    clear hbb x1 t1
    by_cases hc : y < x
    · rw [cmp3_lt hc]
      have P' := Lib.hid (PB.out.put YB.out)
      have hy1 : r ≤ y := by rw [HY.out]; exact HNG.out
      have hy0 : 0 < y := by
        rcases Int.lt_or_le 0 y with h | h
        · exact h
        · have h1 : r ≤ 0 := by omega
          have h2 := HRT.out.1
          have h3 := HRT.out.2.2
          have h4 : r = 0 := by omega
          rw [h4] at h3
          have h5 := HX0.out
          have h6 := HQ0.out
          have h7 : a = 0 := by omega
          exact absurd h7 (of_decide_eq_false HZ.out)
      have REL := Lib.hid (show 0 < y ∧ y ≤ Ten.bp 500 ∧ r ≤ y ∧ y.toNat ≤ gk - 1 ∧ gk - 1 < gk from ⟨hy0, by have := HX5.out; omega, hy1, by have := HGK.out; omega, by have := HGK.out; have := HX0.out; omega⟩)
      clear hy1 hy0 hc
      go_wp2
      go_roundg (gk - 1)
      case measure => exact REL.out.2.2.2.2
      case rel => exact ⟨_, y, P'.out, REL.out.1, REL.out.2.1, REL.out.2.2.1, REL.out.2.2.2.1⟩
    · have hcm : 0 ≤ cmp3 y x := by unfold cmp3; rw [if_neg hc]; split <;> omega
      have hxr : IsRoot a x := by
        have h1 := HNE.out (by rw [← HY.out]; omega)
        have h2 := HRT.out
        have h3 := HRX.out
        have h4 : x = r := by
          rcases Int.lt_or_le r x with h | h
          · have := Int.mul_le_mul (show r + 1 ≤ x by omega) (show r + 1 ≤ x by omega) (by have := h2.1; omega) (by omega)
            have := h2.2.2
            omega
          · omega
        rw [h4]; exact h2
      have XR := Lib.hid hxr
      have q1 := PB.out.r.1
      have q2 := PB.out.r.2
      clear hxr hc
      generalize cmp3 y x = cc at *
      go_wp2
      exact bodyPost_ret (v := .agg #[.slice d q q]) (by simp [results, Tryz.results99, go_sem, q1]) rfl ⟨_, ⟨_, rfl, (PB.out.ret _).1, (PB.out.ret _).2.1⟩, XR.out⟩
theorem root_any (u : Value) (a : Int) (w : World) (hu : NatV w u a) (hd : dn a ≤ 1000) :
    Calls Tryz.prog 99 #[.agg #[u]] w (GivesRt a w) := by
  by_cases h : a = 0
  · exact root_zero u a w hu h
  · exact root_pos u a w hu (by have := hu.1; omega) hd
end Go.Proofs.YtphbfjcaehiboaaGreatDoor
namespace Go.Proofs.YtphbfjcaehiboaaGreatDoor
open Go.RowKit

theorem Root_neg (x : Int) (w : World) (hx : dn x ≤ 1000) (hsx : decide (x < 0) = true) :
    Calls Tryz.prog 66 #[.string (tx x)] w (GivesEr 1 w) := by
  have hpa := parse_tx x w hx
  unfold GivesP at hpa
  rw [hsx] at hpa
  have HP := Lib.hid hpa
  obtain ⟨X, hX⟩ : ∃ X, X = tx x := ⟨_, rfl⟩
  rw [← hX] at HP ⊢
  clear hpa hX hsx
  go_enter Tryz.func66, Tryz.ntmps66
  go_wp2_with fail
  refine HP.out.mono ?_
  rintro e w1 ⟨v1, rfl, hv1, hb1⟩
  obtain ⟨a, k, rfl, hk, _, _, _, _⟩ := hv1.form
  have HK := Lib.hid hk
  have hba := alloc_below' w1 (.cells #[.slice a k k, .bool true] 66)
  have C2 := cell2_new w1 (.slice a k k) (.bool true) 66
  have B2 := Lib.hid (hb1.trans (hba.mono hb1.size))
  have N2 := Lib.hid (hv1.below hba)
  obtain ⟨K, hK⟩ : ∃ K, K = w1.heap.size := ⟨_, rfl⟩
  rw [← hK] at C2
  have HK1 := Lib.hid hK
  have c0 := C2.1
  have c1 := C2.2
  clear hv1 hb1 hk hba hK C2
  go_wp2
  go_ret2
  exact ⟨rfl, B2.out⟩
theorem Root_pos (x : Int) (w : World) (hx : dn x ≤ 1000) (hsx : decide (x < 0) = false) (r : Int) (hr : IsRoot x r) :
    Calls Tryz.prog 66 #[.string (tx x)] w (GivesX r w) := by
  have hpa := parse_tx x w hx
  unfold GivesP at hpa
  rw [hsx] at hpa
  have HP := Lib.hid hpa
  have hx0 : ((x.natAbs : Nat) : Int) = x := by have := of_decide_eq_false hsx; omega
  have hrt := fun (u : Value) W (h : NatV W u x.natAbs) => root_any u x.natAbs W h (by rw [dn_abs]; exact hx)
  rw [hx0] at hrt
  have RT := Lib.hid hrt
  have htx : ∀ z W v s, s = decide (z < 0) → NatV W v z.natAbs → Calls Tryz.prog 60 #[.agg #[v, .bool s]] W (GivesX z W) := fun z W v s e h => by subst e; exact text_any v _ W h
  have TX := Lib.hid htx
  have HR := Lib.hid hr
  clear hrt htx hr
  obtain ⟨X, hX⟩ : ∃ X, X = tx x := ⟨_, rfl⟩
  rw [← hX] at HP ⊢
  have HX := Lib.hid hx0
  clear hpa hX hsx hx0
  go_enter Tryz.func66, Tryz.ntmps66
  go_wp2_with fail
  refine HP.out.mono ?_
  rintro e w1 ⟨v1, rfl, hv1, hb1⟩
  obtain ⟨a, k, rfl, hk, _, _, _, _⟩ := hv1.form
  have HK := Lib.hid hk
  have hba := alloc_below' w1 (.cells #[.slice a k k, .bool false] 66)
  have C2 := cell2_new w1 (.slice a k k) (.bool false) 66
  have B2 := Lib.hid (hb1.trans (hba.mono hb1.size))
  have N2 := Lib.hid (hv1.below hba)
  obtain ⟨K, hK⟩ : ∃ K, K = w1.heap.size := ⟨_, rfl⟩
  rw [← hK] at C2
  have HK1 := Lib.hid hK
  have c0 := C2.1
  have c1 := C2.2
  clear hv1 hb1 hk hba hK C2
  go_wp2_with fail
  rw [← HK1.out]
  generalize w1.alloc (.cells #[.slice a k k, .bool false] 66) = W2 at *
  rw [HX.out] at N2
  refine (RT.out _ W2 N2.out).mono ?_
  rintro e w3 ⟨z, ⟨v3, rfl, hv3, hb3⟩, hz⟩
  obtain rfl := hz.unique HR.out
  have V3 := Lib.hid hv3
  have B3 := Lib.hid (B2.out.trans (hb3.mono B2.out.size))
  clear hv3 hb3 hz c0 c1
  go_wp2_with fail
  refine (signed_false _ z w3 V3.out).mono ?_
  rintro e w4 ⟨v4, rfl, hv4, hb4⟩
  obtain ⟨s4, hs4⟩ : ∃ s4, s4 = decide (z < 0) := ⟨_, rfl⟩
  rw [← hs4]
  have S4 := Lib.hid hs4
  have V4 := Lib.hid hv4
  have B4 := Lib.hid (B3.out.trans (hb4.mono B3.out.size))
  clear hs4 hv4 hb4
  go_wp2_with fail
  refine (TX.out z w4 _ s4 S4.out V4.out).mono ?_
  rintro e w5 ⟨rfl, hb5⟩
  have B5 := Lib.hid (B4.out.trans (hb5.mono B4.out.size))
  obtain ⟨T, hT⟩ : ∃ T, T = (if dn z ≤ 1000 then tx z else ⟨#[]⟩) := ⟨_, rfl⟩
  obtain ⟨E, hE⟩ : ∃ E : Int, E = (if dn z ≤ 1000 then 0 else 3) := ⟨_, rfl⟩
  rw [← hT, ← hE]
  have HT := Lib.hid hT
  have HE := Lib.hid hE
  clear hT hE hb5
  go_wp2
  go_ret2
  exact ⟨by rw [← HT.out, ← HE.out]; rfl, B5.out⟩
theorem Root_bad (s : ByteArray) (w : World) (hs : s.size ≤ 9223372036854775807) (h1 : isT s.data.toList = false) :
    Calls Tryz.prog 66 #[.string s] w (GivesEr 1 w) := by
  have HP1 := Lib.hid (parse_no s w hs h1)
  clear h1
  go_enter Tryz.func66, Tryz.ntmps66
  go_wp2_with fail
  refine HP1.out.mono ?_
  rintro e w1 ⟨rfl, hb1⟩
  have B2 := Lib.hid (hb1.alloc hb1.size (.cells #[.slice none 0 0, .bool false] 66))
  clear hb1
  go_wp2
  go_ret2
  exact ⟨rfl, B2.out⟩
theorem Pow_bad (s : ByteArray) (n : Int) (w : World) (hs : s.size ≤ 9223372036854775807) (h1 : isT s.data.toList = false) :
    Calls Tryz.prog 29 #[.string s, .int .i64 n] w (GivesEr 1 w) := by
  have HP1 := Lib.hid (parse_no s w hs h1)
  clear h1
  go_enter Tryz.func29, Tryz.ntmps29
  go_wp2_with fail
  refine HP1.out.mono ?_
  rintro e w1 ⟨rfl, hb1⟩
  have B2 := Lib.hid (hb1.alloc hb1.size (.cells #[.slice none 0 0, .bool false] 66))
  clear hb1
  go_wp2
  go_ret2
  exact ⟨rfl, B2.out⟩
theorem Pow_neg (x n : Int) (w : World) (hx : dn x ≤ 1000) (hn : n < 0) :
    Calls Tryz.prog 29 #[.string (tx x), .int .i64 n] w (GivesEr 1 w) := by
  have HP1 := Lib.hid (parse_tx x w hx)
  obtain ⟨bx, hbx⟩ : ∃ bx, bx = decide (x < 0) := ⟨_, rfl⟩
  obtain ⟨X, hX⟩ : ∃ X, X = tx x := ⟨_, rfl⟩
  rw [← hX] at HP1 ⊢
  have HBX := Lib.hid hbx
  clear hbx hX
  go_enter Tryz.func29, Tryz.ntmps29
  go_wp2_with fail
  refine HP1.out.mono ?_
  rintro e w1 ⟨v1, rfl, hv1, hb1⟩
  rw [← HBX.out]
  obtain ⟨a, m, rfl, hm, _, _, _, _⟩ := hv1.form
  have HM := Lib.hid hm
  have B2 := Lib.hid (hb1.alloc hb1.size (.cells #[.slice a m m, .bool bx] 66))
  clear hv1 hb1 hm
  go_wp2
  go_ret2
  exact ⟨rfl, B2.out⟩
end Go.Proofs.YtphbfjcaehiboaaGreatDoor
