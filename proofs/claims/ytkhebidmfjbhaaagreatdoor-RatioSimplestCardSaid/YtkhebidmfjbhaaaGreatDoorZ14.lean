/-
  What blend.mix returns.
  What Euclid's algorithm keeps from stage to stage, and what Bezout's numbers are: plain arithmetic.
  How a stage of Euclid's algorithm lies in memory.
-/
import Derived.Test.YtkhebidmfjbhaaaGreatDoorZ13
import Derived.Test.YtkhebidmfjbhaaaGreatDoorZ07
import Derived.Deep.RegionHeld3
import Derived.Deep.Cut
import Derived.Test.YtkhebidmfjbhaaaGreatDoorZ08
namespace Go.Proofs.YtkhebidmfjbhaaaGreatDoor
open Go.RowKit

theorem lz_mod {z : Int} {i j : Nat} : lz (z % bp i) j = if j < i then lz z j else 0 := by
  have hp := bp_pos i
  by_cases h : j < i
  · rw [if_pos h]
    have e : z = z % bp i + bp i * (z / bp i) := (Int.emod_add_mul_ediv z (bp i)).symm
    rw [e, lz_low _ _ h, ← e]
  · rw [if_neg h]
    exact lz_high (Int.emod_nonneg _ (by omega)) (Int.emod_lt_of_pos _ hp) (by omega)
theorem Fresh.drew {w w1 : World} {g n : Nat} {z : Int} (h : Fresh w w1 g n z) : Fresh w w1.drew g n z := ⟨h.below.drew, h.ge, h.lt, h.cells, h.free⟩
theorem Fresh.grow {w w1 : World} {g n i : Nat} {z : Int} (h : Fresh w w1 g n (z % bp i)) (hi : i < n) : Fresh w (w1.setCell ⟨g, i, none⟩ (.int .u64 (lz z i))) g n (z % bp (i + 1)) := by
  have := (Cells.start h.cells).set (i := i) hi (lz z i) (f' := lz (z % bp (i + 1))) (fun j hj => by
    rw [lz_mod, lz_mod]
    by_cases e : j = i
    · subst e; rw [if_pos (by omega), if_pos rfl]
    · rw [if_neg e]
      by_cases h1 : j < i
      · rw [if_pos h1, if_pos (by omega)]
      · rw [if_neg h1, if_neg (by omega)])
  rw [Nat.zero_add] at this
  exact h.wrote this
/-- The carry is no less than the negative factor. -/
theorem mx_low {A C : Int} (x y : Int) (i : Nat) (hA : 0 ≤ A) (hC : -1000000000 < C) : -1000000000 < mx A C x y i := by
  obtain ⟨x0, x1⟩ := mod_bd x i
  obtain ⟨y0, y1⟩ := mod_bd y i
  have hp := bp_pos i
  have a0 := Int.mul_nonneg hA x0
  have c0 := Int.mul_nonneg (show 0 ≤ C + 999999999 by omega) y0
  have c1 := Int.mul_le_mul_of_nonneg_left (Int.le_of_lt y1) (show (0 : Int) ≤ 999999999 by decide)
  rw [Int.add_mul] at c0
  have : -999999999 ≤ mx A C x y i := by
    unfold mx
    apply Int.le_ediv_of_mul_le hp
    omega
  omega
theorem mx_swap (A C x y : Int) (i : Nat) : mx A C x y i = mx C A y x i := by unfold mx; rw [Int.add_comm]
/-- A step of the carry stays within a word. -/
theorem mx_word {A C x y : Int} (i : Nat) (hs : 0 ≤ A ∨ 0 ≤ C) (hA1 : -1000000000 < A) (hA2 : A < 1000000000) (hC1 : -1000000000 < C) (hC2 : C < 1000000000) :
    -1000000000000000000 ≤ A * lz x i ∧ A * lz x i ≤ 1000000000000000000 ∧ -1000000000000000000 ≤ C * lz y i ∧ C * lz y i ≤ 1000000000000000000 ∧ 0 ≤ mx A C x y i + (A * lz x i + C * lz y i) + 1000000000000000000 ∧ -2000000000 ≤ mx A C x y i ∧ mx A C x y i ≤ 2000000000 := by
  have key : ∀ {D l : Int}, -1000000000 < D → D < 1000000000 → 0 ≤ l → l < 1000000000 → -999999998000000001 ≤ D * l ∧ D * l ≤ 999999998000000001 := by
    intro D l h1 h2 h3 h4
    have e1 := Int.mul_nonneg (show 0 ≤ 999999999 - D by omega) h3
    have e2 := Int.mul_nonneg (show 0 ≤ D + 999999999 by omega) h3
    rw [Int.sub_mul] at e1
    rw [Int.add_mul] at e2
    omega
  obtain ⟨l0, l1⟩ := lz_bd x i
  obtain ⟨m0, m1⟩ := lz_bd y i
  obtain ⟨p1, p2⟩ := key hA1 hA2 l0 l1
  obtain ⟨q1, q2⟩ := key hC1 hC2 m0 m1
  have hb := mx_bd (A := A) (C := C) (M := 1000000000) x y i (by omega) (by omega)
  refine ⟨by omega, by omega, by omega, by omega, ?_, hb.1, hb.2⟩
  rcases hs with h | h
  · have := mx_low (A := A) (C := C) x y i h hC1
    have := Int.mul_nonneg h l0
    omega
  · have := mx_low (A := C) (C := A) y x i h hA1
    rw [← mx_swap] at this
    have := Int.mul_nonneg h m0
    omega
theorem mx_lt {A C x y : Int} {n : Nat} (hx : 0 ≤ x) (hx1 : x < bp n) (hy : 0 ≤ y) (hy1 : y < bp n) (hA : A < 1000000000) (hC : C < 1000000000) : A * x + C * y < bp (n + 2) := by
  have e1 := Int.mul_nonneg (show 0 ≤ 999999999 - A by omega) hx
  have e2 := Int.mul_nonneg (show 0 ≤ 999999999 - C by omega) hy
  rw [Int.sub_mul] at e1 e2
  rw [bp_succ, bp_succ]
  omega

/-- The boxes of a blend, two natural numbers and the result, from the end of w on. -/
structure MixBox (w W : World) (A C : Int) (p v q u : Value) : Prop where
  sz : w.heap.size + 1 + 1 + 1 < W.heap.size
  below : Below w.heap.size w W
  d1 : W.cell? ⟨w.heap.size, 0, none⟩ = some (.int .i64 A)
  d2 : W.cell? ⟨w.heap.size, 1, none⟩ = some (.int .i64 C)
  p0 : W.cell? ⟨w.heap.size + 1, 0, none⟩ = some p
  p1 : W.cell? ⟨w.heap.size + 1, 1, none⟩ = some v
  q0 : W.cell? ⟨w.heap.size + 1 + 1, 0, none⟩ = some q
  q1 : W.cell? ⟨w.heap.size + 1 + 1, 1, none⟩ = some u
  res : ResN W (w.heap.size + 1 + 1 + 1)
theorem MixBox.new (w : World) (A C : Int) (p v q u : Value) (T T' : TypeId) : MixBox w ((((w.alloc (.cells #[.int .i64 A, .int .i64 C] T)).alloc (.cells #[p, v] T')).alloc (.cells #[q, u] T')).alloc (.cells #[.int .u64 0, .slice none 0 0] T')) A C p v q u := by
  have h := Box2.new (w.alloc (.cells #[.int .i64 A, .int .i64 C] T)) p v q u T'
  have e : (w.alloc (.cells #[.int .i64 A, .int .i64 C] T)).heap.size = w.heap.size + 1 := by simp
  obtain ⟨h1, h2, h3, h4, h5, h6, h7⟩ := h
  rw [e] at h1 h2 h3 h4 h5 h6 h7
  have hs := slot2_new w (.int .i64 A) (.int .i64 C) T _ rfl
  exact ⟨h1, (alloc_below w _).trans (h2.mono (by omega)), (hs.1.below h2 (by omega)).1, (hs.2.below h2 (by omega)).1, h3, h4, h5, h6, h7⟩
theorem MixBox.step {w W W' : World} {A C : Int} {p v q u : Value} (h : MixBox w W A C p v q u) (hb : Below W.heap.size W W') : MixBox w W' A C p v q u := by
  have h1 := h.sz
  exact ⟨by have := hb.size; omega, h.below.trans (hb.mono (by omega)), (below_at hb 0 (by omega)).trans h.d1, (below_at hb 1 (by omega)).trans h.d2, (below_at hb 0 (by omega)).trans h.p0, (below_at hb 1 (by omega)).trans h.p1, (below_at hb 0 (by omega)).trans h.q0, (below_at hb 1 (by omega)).trans h.q1, h.res.below hb (by omega)⟩
set_option maxHeartbeats 4000000 in
set_option maxRecDepth 100000 in
theorem mix_any (A C : Int) (p v q u : Value) (x y : Int) (w : World) (hu : NatV w p v x) (hv : NatV w q u y) (hx : nl x ≤ 40000) (hy : nl y ≤ 40000) (hs : 0 ≤ A ∨ 0 ≤ C) (hA1 : -1000000000 < A) (hA2 : A < 1000000000) (hC1 : -1000000000 < C) (hC2 : C < 1000000000) (hz : 0 ≤ A * x + C * y) :
    Calls Tryz.prog 236 #[.agg #[.int .i64 A, .int .i64 C], .agg #[p, v], .agg #[q, u]] w (GivesN (A * x + C * y) w) := by
  have hx0 := hu.1
  have hy0 := hv.1
  obtain ⟨n, hn⟩ : ∃ n, n = nl x := ⟨_, rfl⟩
  obtain ⟨m, hm⟩ : ∃ m, m = nl y := ⟨_, rfl⟩
  have hx1 : x < bp n := by rw [hn]; exact nl_lt hx0
  have hy1 : y < bp m := by rw [hm]; exact nl_lt hy0
  rw [← hn] at hx
  rw [← hm] at hy
  have SX := Lib.hid (fun W (hb : Below w.heap.size w W) => spread_any p v x w W hu hb)
  have SY := Lib.hid (fun W (hb : Below w.heap.size w W) => spread_any q u y w W hv hb)
  have HNX := Lib.hid hn
  have HMY := Lib.hid hm
  obtain ⟨t, a, n0, rfl, rfl, -, -, -, -, -, -⟩ := hu.form
  obtain ⟨s, b, m0, rfl, rfl, -, -, -, -, -, -⟩ := hv.form
  obtain ⟨N, hN⟩ : ∃ N : Nat, N = max n m + 2 := ⟨_, rfl⟩
  have hmk := mk_u64 N (by omega)
  have hNe : max (n : Int) (m : Int) + 2 = (N : Int) := by omega
  have hnN : n ≤ N := by omega
  have hmN : m ≤ N := by omega
  have hlt := mx_lt (A := A) (C := C) hx0 (Int.lt_of_lt_of_le hx1 (bp_mono (show n ≤ N - 2 by omega))) hy0 (Int.lt_of_lt_of_le hy1 (bp_mono (show m ≤ N - 2 by omega))) hA2 hC2
  rw [show N - 2 + 2 = N by omega] at hlt
  have hwd := fun i => mx_word (x := x) (y := y) i hs hA1 hA2 hC1 hC2
  have hst := fun i => mx_step A C x y i
  have hhx : ∀ i, n ≤ i → lz x i = 0 := fun i h => lz_high hx0 hx1 h
  have hhy : ∀ i, m ≤ i → lz y i = 0 := fun i h => lz_high hy0 hy1 h
  obtain ⟨z, hzz⟩ : ∃ z, z = A * x + C * y := ⟨_, rfl⟩
  rw [← hzz] at hz hlt hst ⊢
  have hB := MixBox.new w A C (.int .u64 t) (.slice a n0 n0) (.int .u64 s) (.slice b m0 m0) 210 72
  obtain ⟨W0, hW0⟩ : ∃ W0, W0 = ((((w.alloc (.cells #[.int .i64 A, .int .i64 C] 210)).alloc (.cells #[.int .u64 t, .slice a n0 n0] 72)).alloc (.cells #[.int .u64 s, .slice b m0 m0] 72)).alloc (.cells #[.int .u64 0, .slice none 0 0] 72)) := ⟨_, rfl⟩
  rw [← hW0] at hB
  have ST := Lib.hid hB
  obtain ⟨hsz, _, d1, d2, c00, c01, c10, c11, _⟩ := hB
  have HMK := Lib.hid hmk
  have WD := Lib.hid hwd
  have STP := Lib.hid hst
  have HHX := Lib.hid hhx
  have HHY := Lib.hid hhy
  have HZ := Lib.hid hz
  have HLT := Lib.hid hlt
  have HNN := Lib.hid hN
  have M0 := Lib.hid (mx_zero A C x y)
  clear hn hm hu hv hx1 hy1 hlt hwd hst hhx hhy hz hzz hs hN hmk
  go_enter Tryz.func236, Tryz.ntmps236
  go_wp2_with fail
  rw [← hW0]
  clear hW0
  go_region_held3 (fun W => W.cell? ⟨w.heap.size + 1, 0, none⟩ = some (.int .u64 t) ∧ W.cell? ⟨w.heap.size + 1, 1, none⟩ = some (.slice a n0 n0) ∧ W.cell? ⟨w.heap.size + 1 + 1, 0, none⟩ = some (.int .u64 s) ∧ W.cell? ⟨w.heap.size + 1 + 1, 1, none⟩ = some (.slice b m0 m0)) (exact ⟨c00, c01, c10, c11⟩) (first | (go_at_call 200; (with_reducible refine Calls.mono (SX.out _ ?hv) ?_); (case hv => exact (ST.out.step (below_drew _)).below); rintro e w5 ⟨a5, rfl, hr5, hb5⟩; replace hb5 := below_undrew hb5; rw [← HNX.out] at hr5; have R5 := Lib.hid hr5.row; replace ST := Lib.hid (ST.out.step hb5); clear c00 c01 c10 c11; have c00 := ST.out.p0; have c01 := ST.out.p1; have c10 := ST.out.q0; have c11 := ST.out.q1; rw [← HNX.out]; clear hr5 hb5) | (go_at_call 200; (with_reducible refine Calls.mono (SY.out _ ?hv) ?_); (case hv => exact ST.out.below); rintro e w6 ⟨a6, rfl, hr6, hb6⟩; rw [← HMY.out] at hr6; have R6 := Lib.hid hr6.row; replace R5 := Lib.hid ((R5.out.below hb6).mono hb6.size); replace ST := Lib.hid (ST.out.step hb6); clear c00 c01 c10 c11; have c00 := ST.out.p0; have c01 := ST.out.p1; have c10 := ST.out.q0; have c11 := ST.out.q1; rw [← HMY.out]; clear hr6 hb6))
  have hmk := HMK.out
  have hF := Fresh.made w6 N
  have HF := Lib.hid hF
  clear c00 c01 c10 c11 hF HMK d1 d2
  go_wp2
  clear hmk
  go_loopw [10, 26] (fun c i wr => ∃ k : Nat, k ≤ N ∧ i = .int .i64 k ∧ c = .int .i64 (mx A C x y k) ∧ Fresh w6 wr w6.heap.size N (z % bp k)) (fun _ i _ => N - (intOf i).toNat)
  case atStart => exact ⟨0, by omega, rfl, by rw [M0.out], by rw [mod_zero]; exact HF.out⟩
  case round =>
    obtain ⟨k, hk, rfl, rfl, hFr⟩ := hrel
    have HR := Lib.hid hFr
    have SB := Lib.hid (ST.out.step hFr.below)
    have d1 := SB.out.d1
    have d2 := SB.out.d2
    clear hFr HF
    by_cases hlt : k < N
    · have h4 := HR.out.free' k hlt
      have h3 := HR.out.cell' k hlt
      obtain ⟨e1, e2, e3, e4, e5, e6, e7⟩ := WD.out k
      obtain ⟨f1, f2⟩ := STP.out k
      by_cases hx' : k < n <;> by_cases hy' : k < m
      · obtain ⟨g, o, rfl, hg, hcx⟩ := R5.out (by omega)
        have h1 := (below_at HR.out.below (o + k) hg).trans (hcx k hx')
        clear hcx
        obtain ⟨g', o', rfl, hg', hcy⟩ := R6.out (by omega)
        have h2 := (below_at HR.out.below (o' + k) hg').trans (hcy k hy')
        clear hcy
        have g1 : (mx A C x y k + A * lz x k + C * lz y k + 1000000000000000000) % 1000000000 = lz z k := by omega
        have g2 : (mx A C x y k + A * lz x k + C * lz y k + 1000000000000000000) / 1000000000 - 1000000000 = mx A C x y (k + 1) := by omega
        have HG := Lib.hid (HR.out.drew.drew.grow hlt)
        rw [← g1] at HG
        have G2 := Lib.hid g2
        clear g1 g2 f1 f2
        have b1 := lz_bd x k
        have b2 := lz_bd y k
        generalize lz x k = lx at *
        generalize lz y k = ly at *
        generalize mx A C x y k = c at *
        go_wp2
        go_region
        all_goals go_wp2
        all_goals go_region
        all_goals go_wp2
        all_goals go_roundw
        case rel => exact ⟨k + 1, by omega, by go_num, by rw [← G2.out], HG.out⟩
        case measure => simp [intOf]; omega
      · obtain ⟨g, o, rfl, hg, hcx⟩ := R5.out (by omega)
        have h1 := (below_at HR.out.below (o + k) hg).trans (hcx k hx')
        clear hcx
        have hy9 := HHY.out k (by omega)
        rw [hy9] at e3 e4 e5 f1 f2
        rw [Int.mul_zero] at e3 e4 e5 f1 f2
        clear hy9
        have g1 : (mx A C x y k + A * lz x k + 1000000000000000000) % 1000000000 = lz z k := by omega
        have g2 : (mx A C x y k + A * lz x k + 1000000000000000000) / 1000000000 - 1000000000 = mx A C x y (k + 1) := by omega
        have HG := Lib.hid (HR.out.drew.grow hlt)
        rw [← g1] at HG
        have G2 := Lib.hid g2
        clear g1 g2 f1 f2
        have b1 := lz_bd x k
        generalize lz x k = lx at *
        generalize mx A C x y k = c at *
        go_wp2
        go_region
        all_goals go_wp2
        all_goals go_roundw
        case rel => exact ⟨k + 1, by omega, by go_num, by rw [← G2.out], HG.out⟩
        case measure => simp [intOf]; omega
      · have hx9 := HHX.out k (by omega)
        rw [hx9] at e1 e2 e5 f1 f2
        rw [Int.mul_zero] at e1 e2 e5 f1 f2
        clear hx9
        obtain ⟨g', o', rfl, hg', hcy⟩ := R6.out (by omega)
        have h2 := (below_at HR.out.below (o' + k) hg').trans (hcy k hy')
        clear hcy
        have g1 : (mx A C x y k + C * lz y k + 1000000000000000000) % 1000000000 = lz z k := by omega
        have g2 : (mx A C x y k + C * lz y k + 1000000000000000000) / 1000000000 - 1000000000 = mx A C x y (k + 1) := by omega
        have HG := Lib.hid (HR.out.drew.grow hlt)
        rw [← g1] at HG
        have G2 := Lib.hid g2
        clear g1 g2 f1 f2
        have b2 := lz_bd y k
        generalize lz y k = ly at *
        generalize mx A C x y k = c at *
        go_wp2
        go_region
        all_goals go_wp2
        all_goals go_roundw
        case rel => exact ⟨k + 1, by omega, by go_num, by rw [← G2.out], HG.out⟩
        case measure => simp [intOf]; omega
      · have hx9 := HHX.out k (by omega)
        rw [hx9] at e1 e2 e5 f1 f2
        rw [Int.mul_zero] at e1 e2 e5 f1 f2
        clear hx9
        have hy9 := HHY.out k (by omega)
        rw [hy9] at e3 e4 e5 f1 f2
        rw [Int.mul_zero] at e3 e4 e5 f1 f2
        clear hy9
        have g1 : (mx A C x y k + 1000000000000000000) % 1000000000 = lz z k := by omega
        have g2 : (mx A C x y k + 1000000000000000000) / 1000000000 - 1000000000 = mx A C x y (k + 1) := by omega
        have HG := Lib.hid (HR.out.grow hlt)
        rw [← g1] at HG
        have G2 := Lib.hid g2
        clear g1 g2 f1 f2
        generalize mx A C x y k = c at *
        go_wp2
        all_goals go_roundw
        case rel => exact ⟨k + 1, by omega, by go_num, by rw [← G2.out], HG.out⟩
        case measure => simp [intOf]; omega
    · obtain rfl : k = N := by omega
      have hzm : z % bp k = z := mod_self HZ.out HLT.out
      rw [hzm] at HR
      go_wp2_with fail
      refine (trim_any _ k k z _ HZ.out HLT.out (by omega) (by omega) HR.out.row).mono ?_
      rintro e w9 ⟨p9, v9, rfl, hv9, hb9⟩
      have FI := Lib.hid (SB.out.step hb9)
      have HV9 := Lib.hid hv9
      obtain ⟨t9, a9, n9, rfl, rfl, -, -, -, -, -, -⟩ := hv9.form
      clear hv9 hb9 hzm d1 d2
      obtain ⟨r0, r1, r2, r3⟩ := FI.out.res
      go_wp2
      exact bodyPost_ret (v := .agg #[.int .u64 t9, .slice a9 n9 n9]) (by simp [results, Tryz.results236, go_sem, r0, r1]) rfl (giveN (HV9.out.put r1 _ _) (below_set (below_set FI.out.below 0 (by omega) _) 1 (by omega) _))
end Go.Proofs.YtkhebidmfjbhaaaGreatDoor
namespace Go.Proofs.YtkhebidmfjbhaaaGreatDoor
theorem gcd_emod (a b : Int) : (Int.gcd b (a % b) : Int) = Int.gcd a b := by
  congr 1
  apply Nat.dvd_antisymm
  · apply Int.dvd_gcd
    · have h1 := Int.gcd_dvd_left b (a % b)
      have h2 := Int.gcd_dvd_right b (a % b)
      have e := Int.mul_ediv_add_emod a b
      have h3 := Int.dvd_add (Int.dvd_trans h1 (Int.dvd_mul_right b (a / b))) h2
      rwa [e] at h3
    · exact Int.gcd_dvd_left b (a % b)
  · apply Int.dvd_gcd
    · exact Int.gcd_dvd_right a b
    · have h1 := Int.gcd_dvd_left a b
      have h2 := Int.gcd_dvd_right a b
      have e := Int.mul_ediv_add_emod a b
      rw [show a % b = a - b * (a / b) by omega]
      exact Int.dvd_sub h1 (Int.dvd_trans h2 (Int.dvd_mul_right _ _))
end Go.Proofs.YtkhebidmfjbhaaaGreatDoor
namespace Go.Proofs.YtkhebidmfjbhaaaGreatDoor
open Go.RowKit

theorem Slot.lt {W : World} {k o : Nat} {u : Value} (h : Slot W k o u) : k < W.heap.size := World.block_lt_of_cell? W ⟨k, o, none⟩ h.1
theorem slotO_same {W : World} {k o : Nat} {u v : Value} (h : Slot W k o u) : Slot (W.setCell ⟨k, o, none⟩ v) k o v :=
  ⟨World.cell?_setCell_same _ _ _ h.1, by rw [World.frozen?_setCell]; exact h.2⟩
theorem slotO_other {W : World} {k o r p : Nat} {u v : Value} (h : Slot W k o u) (hk : k = r → o ≠ p) : Slot (W.setCell ⟨r, p, none⟩ v) k o u :=
  ⟨by rw [World.cell?_setCell_other _ _ _ _ (by intro e; injection e with e1 e2; exact hk (by omega) (by omega))]; exact h.1, by rw [World.frozen?_setCell]; exact h.2⟩
/-- A natural number in two cells of block k, from o on. -/
structure Nat2 (W : World) (k o : Nat) (p v : Value) (x : Int) : Prop where
  s : Slot W k o p
  t : Slot W k (o + 1) v
  n : NatV W p v x
theorem Nat2.below {W W' : World} {k o : Nat} {p v : Value} {x : Int} (h : Nat2 W k o p v x) (hb : Below W.heap.size W W') : Nat2 W' k o p v x :=
  ⟨h.s.below hb h.s.lt, h.t.below hb h.s.lt, h.n.below hb⟩
/-- Both cells are written. -/
def wrN (W : World) (k o : Nat) (p v : Value) : World := (W.setCell ⟨k, o, none⟩ p).setCell ⟨k, o + 1, none⟩ v
theorem slot_wr2 {W : World} {k o r i : Nat} {p v u : Value} (h : Slot W k o u) (hk : k = r → o ≠ i ∧ o ≠ i + 1) : Slot (wrN W r i p v) k o u := slotO_other (slotO_other h (fun e => (hk e).1)) (fun e => (hk e).2)
/-- A number goes on where a number in memory is written over: the first of two cells is followed by a slice. -/
theorem NatV.wr2 {W : World} {k o : Nat} {p v p' v' P V : Value} {x y : Int} (h : NatV W P V y) (hk : Nat2 W k o p v x) (ho : o < 2 ∨ ∃ u, Slot W k (o - 1) u ∧ ∀ t, u ≠ .int .u64 t) : NatV (wrN W k o p' v') P V y := by
  obtain ⟨t, a, n, rfl, rfl, _, _, _, _, _, _⟩ := hk.n.form
  unfold wrN
  refine (h.store00 hk.t.1 (fun _ e => by cases e) ?_ _).store (u0 := .slice a n n) (by rw [World.cell?_setCell_other _ _ _ _ (by intro e; injection e; omega)]; exact hk.t.1) (fun _ e => by cases e) _
  rcases ho with ho | ⟨u, hu, hn⟩
  · exact .inl ho
  · exact .inr ⟨u, hu.1, hn⟩
theorem Nat2.wr2 {W : World} {k o r i : Nat} {p v p1 v1 p' v' : Value} {x y : Int} (h : Nat2 W k o p v x) (hk : Nat2 W r i p1 v1 y) (hne : k = r → o ≠ i ∧ o ≠ i + 1 ∧ o + 1 ≠ i ∧ o + 1 ≠ i + 1) (ho : i < 2 ∨ ∃ u, Slot W r (i - 1) u ∧ ∀ t, u ≠ .int .u64 t) : Nat2 (wrN W r i p' v') k o p v x :=
  ⟨slot_wr2 h.s (fun e => ⟨(hne e).1, (hne e).2.1⟩), slot_wr2 h.t (fun e => ⟨(hne e).2.2.1, (hne e).2.2.2⟩), h.n.wr2 hk ho⟩
theorem Nat2.put {W : World} {k o : Nat} {p v p' v' : Value} {x y : Int} (h : Nat2 W k o p v x) (hn : NatV W p' v' y) (ho : o < 2 ∨ ∃ u, Slot W k (o - 1) u ∧ ∀ t, u ≠ .int .u64 t) : Nat2 (wrN W k o p' v') k o p' v' y :=
  ⟨slotO_other (slotO_same h.s) (fun _ => by omega), slotO_same (slotO_other h.t (fun _ => by omega)), hn.wr2 h ho⟩
theorem Nat2.notint {W : World} {k o : Nat} {p v : Value} {x : Int} (h : Nat2 W k o p v x) : ∀ t, v ≠ .int .u64 t := by
  obtain ⟨t, a, n, rfl, rfl, _, _, _, _, _, _⟩ := h.n.form
  intro t e; cases e
theorem wr2_below {w W : World} {B k o : Nat} {p v : Value} (h : Below B w W) (hk : B ≤ k) : Below B w (wrN W k o p v) := below_set (below_set h o hk _) (o + 1) hk _
/-- The stage of the algorithm that lies at g. -/
structure EB (W : World) (g : Nat) (pa va pb vb ps vs pt vt : Value) (mn : Bool) (a b s t : Int) : Prop where
  a : Nat2 W g 0 pa va a
  b : Nat2 W g 2 pb vb b
  s : Nat2 W g 4 ps vs s
  t : Nat2 W g 6 pt vt t
  m : Slot W g 8 (.bool mn)
theorem EB.lt {W : World} {g : Nat} {pa va pb vb ps vs pt vt : Value} {mn : Bool} {a b s t : Int} (h : EB W g pa va pb vb ps vs pt vt mn a b s t) : g < W.heap.size := h.m.lt
theorem EB.step {W W' : World} {g : Nat} {pa va pb vb ps vs pt vt : Value} {mn : Bool} {a b s t : Int} (h : EB W g pa va pb vb ps vs pt vt mn a b s t) (hb : Below W.heap.size W W') : EB W' g pa va pb vb ps vs pt vt mn a b s t :=
  ⟨h.a.below hb, h.b.below hb, h.s.below hb, h.t.below hb, h.m.below hb h.m.lt⟩
theorem EB.puta {W : World} {g : Nat} {pa va pb vb ps vs pt vt p v : Value} {mn : Bool} {a b s t z : Int} (h : EB W g pa va pb vb ps vs pt vt mn a b s t) (hn : NatV W p v z) : EB (wrN W g 0 p v) g p v pb vb ps vs pt vt mn z b s t :=
  ⟨h.a.put hn (.inl (by omega)), h.b.wr2 h.a (fun _ => by omega) (.inl (by omega)), h.s.wr2 h.a (fun _ => by omega) (.inl (by omega)), h.t.wr2 h.a (fun _ => by omega) (.inl (by omega)), slot_wr2 h.m (fun _ => by omega)⟩
theorem EB.putb {W : World} {g : Nat} {pa va pb vb ps vs pt vt p v : Value} {mn : Bool} {a b s t z : Int} (h : EB W g pa va pb vb ps vs pt vt mn a b s t) (hn : NatV W p v z) : EB (wrN W g 2 p v) g pa va p v ps vs pt vt mn a z s t := by
  have ho : 2 < 2 ∨ ∃ u, Slot W g (2 - 1) u ∧ ∀ t, u ≠ .int .u64 t := .inr ⟨_, h.a.t, h.a.notint⟩
  exact ⟨h.a.wr2 h.b (fun _ => by omega) ho, h.b.put hn ho, h.s.wr2 h.b (fun _ => by omega) ho, h.t.wr2 h.b (fun _ => by omega) ho, slot_wr2 h.m (fun _ => by omega)⟩
theorem EB.puts {W : World} {g : Nat} {pa va pb vb ps vs pt vt p v : Value} {mn : Bool} {a b s t z : Int} (h : EB W g pa va pb vb ps vs pt vt mn a b s t) (hn : NatV W p v z) : EB (wrN W g 4 p v) g pa va pb vb p v pt vt mn a b z t := by
  have ho : 4 < 2 ∨ ∃ u, Slot W g (4 - 1) u ∧ ∀ t, u ≠ .int .u64 t := .inr ⟨_, h.b.t, h.b.notint⟩
  exact ⟨h.a.wr2 h.s (fun _ => by omega) ho, h.b.wr2 h.s (fun _ => by omega) ho, h.s.put hn ho, h.t.wr2 h.s (fun _ => by omega) ho, slot_wr2 h.m (fun _ => by omega)⟩
theorem EB.putt {W : World} {g : Nat} {pa va pb vb ps vs pt vt p v : Value} {mn : Bool} {a b s t z : Int} (h : EB W g pa va pb vb ps vs pt vt mn a b s t) (hn : NatV W p v z) : EB (wrN W g 6 p v) g pa va pb vb ps vs p v mn a b s z := by
  have ho : 6 < 2 ∨ ∃ u, Slot W g (6 - 1) u ∧ ∀ t, u ≠ .int .u64 t := .inr ⟨_, h.s.t, h.s.notint⟩
  exact ⟨h.a.wr2 h.t (fun _ => by omega) ho, h.b.wr2 h.t (fun _ => by omega) ho, h.s.wr2 h.t (fun _ => by omega) ho, h.t.put hn ho, slot_wr2 h.m (fun _ => by omega)⟩
theorem EB.putm {W : World} {g : Nat} {pa va pb vb ps vs pt vt : Value} {mn : Bool} {a b s t : Int} (h : EB W g pa va pb vb ps vs pt vt mn a b s t) (c : Bool) : EB (W.setCell ⟨g, 8, none⟩ (.bool c)) g pa va pb vb ps vs pt vt c a b s t := by
  have hn : ∀ n : Int, Value.bool mn ≠ .int .u64 n := fun _ e => by cases e
  have key : ∀ {o : Nat} {p v : Value} {x : Int}, Nat2 W g o p v x → o ≠ 8 → o + 1 ≠ 8 → Nat2 (W.setCell ⟨g, 8, none⟩ (.bool c)) g o p v x := fun h2 h3 h4 => ⟨slotO_other h2.s (fun _ => h3), slotO_other h2.t (fun _ => h4), h2.n.store h.m.1 hn _⟩
  exact ⟨key h.a (by omega) (by omega), key h.b (by omega) (by omega), key h.s (by omega) (by omega), key h.t (by omega) (by omega), slotO_same h.m⟩
/-- A natural number in a box apart from the stage goes on. -/
theorem Nat2.apart {W : World} {k g o : Nat} {p v p' v' p1 v1 : Value} {x y : Int} (h : Nat2 W k 0 p v x) (hk : k ≠ g) (hg : Nat2 W g o p1 v1 y) (ho : o < 2 ∨ ∃ u, Slot W g (o - 1) u ∧ ∀ t, u ≠ .int .u64 t) : Nat2 (wrN W g o p' v') k 0 p v x := h.wr2 hg (fun e => absurd e hk) ho

theorem ResN.lt {W : World} {k : Nat} (h : ResN W k) : k < W.heap.size := World.block_lt_of_cell? W ⟨k, 0, none⟩ h.c0
theorem ResN.alloc {W : World} {k : Nat} {o : Obj} (h : ResN W k) : ResN (W.alloc o) k := h.below (alloc_below _ _) h.lt
theorem nat_alloc {W : World} {p v : Value} {x : Int} {o : Obj} (h : NatV W p v x) : NatV (W.alloc o) p v x := h.below (alloc_below _ _)
theorem below_more {w W : World} {o : Obj} (h : Below w.heap.size w W) : Below w.heap.size w (W.alloc o) := h.alloc h.size _
theorem below_put {w W : World} {B k o : Nat} {u : Value} (h : Below B w W) (hk : B ≤ k) : Below B w (W.setCell ⟨k, o, none⟩ u) := below_set h o hk u
theorem ResN.nat2 {W : World} {k : Nat} (h : ResN W k) : Nat2 W k 0 (.int .u64 0) (.slice none 0 0) 0 := ⟨⟨h.c0, h.f0⟩, ⟨h.c1, h.f1⟩, NatV.zero _⟩
/-- Two boxes that hold the numbers x and y. -/
structure RB (w W : World) (k2 k3 : Nat) (p v q u : Value) (x y : Int) : Prop where
  below : Below w.heap.size w W
  l2 : w.heap.size ≤ k2
  l3 : w.heap.size ≤ k3
  n2 : Nat2 W k2 0 p v x
  n3 : Nat2 W k3 0 q u y
theorem res2 {w w1 : World} {t : TypeId} (hb : Below ((w.alloc (.cells #[.int .u64 0, .slice none 0 0] t)).alloc (.cells #[.int .u64 0, .slice none 0 0] t)).drew.heap.size ((w.alloc (.cells #[.int .u64 0, .slice none 0 0] t)).alloc (.cells #[.int .u64 0, .slice none 0 0] t)).drew w1) :
    ResN w1 w.heap.size ∧ ResN w1 (w.heap.size + 1) := by
  replace hb := below_undrew hb
  refine ⟨?_, ?_⟩
  · exact ((ResN.new w t w.heap.size rfl).alloc).below hb (by simp; omega)
  · exact (ResN.new (w.alloc (.cells #[.int .u64 0, .slice none 0 0] t)) t (w.heap.size + 1) (by simp)).below hb (by simp)
theorem res1 {w w1 : World} {t : TypeId} (hb : Below (w.alloc (.cells #[.int .u64 0, .slice none 0 0] t)).drew.heap.size (w.alloc (.cells #[.int .u64 0, .slice none 0 0] t)).drew w1) : ResN w1 w.heap.size ∧ w.heap.size < w1.heap.size := by
  replace hb := below_undrew hb
  have h := (ResN.new w t w.heap.size rfl).below hb (by simp)
  exact ⟨h, h.lt⟩
theorem ResN.put {W : World} {k r : Nat} {a b : Value} (h : ResN W k) (hne : k ≠ r) : ResN ((W.setCell ⟨r, 0, none⟩ a).setCell ⟨r, 1, none⟩ b) k :=
  ⟨by rw [World.cell?_setCell_other _ _ _ _ (by intro e; injection e; omega), World.cell?_setCell_other _ _ _ _ (by intro e; injection e; omega)]; exact h.c0, by rw [World.cell?_setCell_other _ _ _ _ (by intro e; injection e; omega), World.cell?_setCell_other _ _ _ _ (by intro e; injection e; omega)]; exact h.c1, by rw [World.frozen?_setCell, World.frozen?_setCell]; exact h.f0, by rw [World.frozen?_setCell, World.frozen?_setCell]; exact h.f1⟩
theorem nat_put {W : World} {k : Nat} {a b p v : Value} {x : Int} (h : NatV W p v x) (hr : ResN W k) : NatV ((W.setCell ⟨k, 0, none⟩ a).setCell ⟨k, 1, none⟩ b) p v x := h.put hr.c1 a b
theorem nat2_new {W : World} {k : Nat} {p v : Value} {x : Int} (T : TypeId) (h : NatV W p v x) (hk : k = W.heap.size) : Nat2 (W.alloc (.cells #[p, v] T)) k 0 p v x :=
  ⟨⟨by rw [World.cell?_alloc_at _ _ _ _ hk]; rfl, by rw [World.frozen?_alloc_at _ _ _ _ hk]⟩, ⟨by rw [World.cell?_alloc_at _ _ _ _ hk]; rfl, by rw [World.frozen?_alloc_at _ _ _ _ hk]⟩, nat_alloc h⟩
theorem Nat2.alloc {W : World} {k o : Nat} {p v : Value} {x : Int} {ob : Obj} (h : Nat2 W k o p v x) : Nat2 (W.alloc ob) k o p v x := h.below (alloc_below _ _)
theorem nat2_put {W : World} {k : Nat} {p v : Value} {x : Int} (h : NatV W p v x) (hr : ResN W k) : Nat2 ((W.setCell ⟨k, 0, none⟩ p).setCell ⟨k, 1, none⟩ v) k 0 p v x := hr.nat2.put h (.inl (by omega))
theorem nat2_other {W : World} {k r : Nat} {p v a b : Value} {x : Int} (h : Nat2 W k 0 p v x) (hne : k ≠ r) (hr : ResN W r) : Nat2 ((W.setCell ⟨r, 0, none⟩ a).setCell ⟨r, 1, none⟩ b) k 0 p v x := h.wr2 hr.nat2 (fun e => absurd e hne) (.inl (by omega))
/-- The cells that a line reads, and that all below is as it was. -/
theorem SK {w W : World} {g : Nat} {pa va pb vb ps vs pt vt : Value} {mn : Bool} {a b s t : Int} (h : EB w g pa va pb vb ps vs pt vt mn a b s t) (hb : Below w.heap.size w W) :
    (W.cell? ⟨g, 0, none⟩ = some pa ∧ W.cell? ⟨g, 1, none⟩ = some va ∧ W.cell? ⟨g, 2, none⟩ = some pb ∧ W.cell? ⟨g, 3, none⟩ = some vb) ∧ Below w.heap.size w W :=
  ⟨⟨(h.step hb).a.s.1, (h.step hb).a.t.1, (h.step hb).b.s.1, (h.step hb).b.t.1⟩, hb⟩
end Go.Proofs.YtkhebidmfjbhaaaGreatDoor
