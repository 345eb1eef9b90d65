/-
  The guess of a limb of a quotient, and the step of a division that it serves.
  What natural.product returns.
  What Number.Times and Number.Minus return.
  A step of the written division, and its arithmetic.
-/
import Derived.Test.YtkhebidmfjbhaaaGreatDoorZ04
import Derived.Test.YtkhebidmfjbhaaaGreatDoorZ06
import Derived.Laws.Externs
namespace Go.Proofs.YtkhebidmfjbhaaaGreatDoor
open Go.RowKit

/-- The guess. -/
def est (U V : Int) (n : Nat) : Int := (U / bp (n - 2)) / (V / bp (n - 2))
theorem est_one (U V : Int) : est U V 1 = U / V := by unfold est; rw [show 1 - 2 = 0 from rfl, div_bp_zero, div_bp_zero]
theorem est_bd {U V : Int} {n : Nat} (hU : 0 ≤ U) (hV : bp (n - 1) ≤ V) (hn : 1 ≤ n) (h : U < V * 1000000000) : U / V ≤ est U V n ∧ est U V n ≤ U / V + 1 ∧ est U V n ≤ 1000000000 := by
  have hp1 := bp_pos (n - 1)
  have hV0 : 0 < V := by omega
  have hq : U / V < 1000000000 := Int.ediv_lt_of_lt_mul hV0 (by rw [Int.mul_comm]; exact h)
  rcases Nat.lt_or_ge 1 n with h2 | h2
  · have hp := bp_pos (n - 2)
    unfold est
    obtain ⟨P, hP⟩ : ∃ P, bp (n - 2) = P := ⟨_, rfl⟩
    have hV1 : 1000000000 ≤ V / P := by
      apply Int.le_ediv_of_mul_le (by omega)
      rw [show n - 1 = (n - 2) + 1 by omega, bp_succ, hP] at hV
      exact hV
    rw [hP] at hp ⊢
    have eU := Int.emod_add_mul_ediv U P
    have eV := Int.emod_add_mul_ediv V P
    have u1 := Int.emod_nonneg U (show P ≠ 0 by omega)
    have u2 := Int.emod_lt_of_pos U hp
    have v1 := Int.emod_nonneg V (show P ≠ 0 by omega)
    have v2 := Int.emod_lt_of_pos V hp
    generalize U / P = u at *
    generalize V / P = v at *
    have hu0 : 0 ≤ u := by
      rcases Int.lt_or_le u 0 with h3 | h3
      · have := Int.mul_le_mul_of_nonneg_left (show u ≤ -1 by omega) (Int.le_of_lt hp); omega
      · exact h3
    have e := Int.emod_add_mul_ediv u v
    have w1 := Int.emod_nonneg u (show v ≠ 0 by omega)
    have w2 := Int.emod_lt_of_pos u (show 0 < v by omega)
    have w0 := Int.ediv_nonneg hu0 (show 0 ≤ v by omega)
    obtain ⟨E, hE⟩ : ∃ E, u / v = E := ⟨_, rfl⟩
    rw [hE] at e w0 ⊢
    have hEb : E ≤ 1000000000 := by
      have : u < (v + 1) * 1000000000 := by
        have g1 := Int.mul_le_mul_of_nonneg_left (show v + 1 ≤ v + 1 by omega) (Int.le_of_lt hp)
        rcases Int.lt_or_le u ((v + 1) * 1000000000) with g | g
        · exact g
        · have g2 := Int.mul_le_mul_of_nonneg_left g (Int.le_of_lt hp)
          rw [← Int.mul_assoc, Int.mul_add, Int.mul_one] at g2
          generalize P * v = pv at *
          omega
      have : E < 1000000001 := by
        rw [← hE]
        apply Int.ediv_lt_of_lt_mul (by omega)
        omega
      omega
    refine ⟨?_, ?_, hEb⟩
    · have e3 := Int.emod_add_mul_ediv U V
      have w3 := Int.emod_nonneg U (show V ≠ 0 by omega)
      have q0 := Int.ediv_nonneg hU (Int.le_of_lt hV0)
      generalize U / V = q at *
      have : q ≤ u / v := by
        apply Int.le_ediv_of_mul_le (by omega)
        rcases Int.lt_or_le u (q * v) with g | g
        · have g2 := Int.mul_le_mul_of_nonneg_left (show u + 1 ≤ q * v by omega) (Int.le_of_lt hp)
          have g3 := Int.mul_le_mul_of_nonneg_left (show P * v ≤ V by omega) q0
          rw [Int.mul_add, Int.mul_one, Int.mul_left_comm] at g2
          rw [Int.mul_comm V q] at e3
          omega
        · exact g
      rw [hE] at this; exact this
    · have : E - 1 ≤ U / V := by
        apply Int.le_ediv_of_mul_le hV0
        rcases Int.lt_or_le 0 E with g | g
        · have g1 := Int.mul_le_mul_of_nonneg_left (show V ≤ P * (v + 1) by rw [Int.mul_add, Int.mul_one]; omega) (show 0 ≤ E - 1 by omega)
          have g2 : (E - 1) * (v + 1) ≤ u := by
            rw [Int.sub_mul, Int.mul_add, Int.mul_one, Int.one_mul, Int.mul_comm E v]
            omega
          have g3 := Int.mul_le_mul_of_nonneg_left g2 (Int.le_of_lt hp)
          rw [Int.mul_left_comm] at g1
          omega
        · obtain rfl : E = 0 := by omega
          have := Int.neg_mul 1 V
          omega
      omega
  · obtain rfl : n = 1 := by omega
    rw [est_one]
    omega

theorem mul64_int (x y : Int) (w : World) (x0 : 0 ≤ x) (x1 : x ≤ 18446744073709551615) (y0 : 0 ≤ y) (y1 : y ≤ 18446744073709551615) :
    Calls Tryz.prog 199 #[.int .u64 x, .int .u64 y] w fun e w' => e = .returned (.tuple #[.int .u64 (x * y / 18446744073709551616), .int .u64 (x * y % 18446744073709551616)]) ∧ w = w' := by
  obtain ⟨a, rfl⟩ := Int.eq_ofNat_of_zero_le x0
  obtain ⟨b, rfl⟩ := Int.eq_ofNat_of_zero_le y0
  refine (Tryz.bits_Mul64 a b (by omega) (by omega) w).mono ?_
  rintro e w' ⟨rfl, rfl⟩
  refine ⟨?_, rfl⟩
  have e1 : (a : Int) * (b : Int) = ((a * b : Nat) : Int) := (Int.natCast_mul a b).symm
  rw [e1]
  congr 1

theorem add64_run (x y : Int) (w : World) (x0 : 0 ≤ x) (y0 : 0 ≤ y) : (callFunc 238 #[.int .u64 x, .int .u64 y, .int .u64 0]).run Tryz.prog w = .ok (.value (.tuple #[.int .u64 ((x + y) % 18446744073709551616), .int .u64 ((x + y) / 18446744073709551616)])) w := by
  rw [run_callFunc_extern Tryz.func238 (by kernel_rfl) (by kernel_rfl) (by kernel_rfl) (e := add64Entry) (by kernel_rfl), run_add64 x y 0 x0 y0 (by omega) (by omega)]
  simp only [Result.andThen, Int.add_zero]

def GivesW (t : Int) (w : World) (e : Ending) (w' : World) : Prop := ∃ d, e = .returned (.int .u64 t) ∧ w' = w.drewN d

theorem div_quiet {args : Array Value} {q r : Int} {w : World} {n : Nat} (h : Calls Tryz.prog 239 args (w.drewN n) (GivesD q r (w.drewN n))) : Calls Tryz.prog 239 args (w.drewN n) fun e w'' => e = .returned (.tuple #[.int .u64 q, .int .u64 r]) ∧ ∃ m, w'' = w.drewN m :=
  h.mono fun _ _ ⟨d, he, hw⟩ => ⟨he, n + d, by rw [hw, World.drewN_drewN]⟩
set_option maxRecDepth 100000 in
theorem estimate_many (g o c : Nat) (a : Option Addr) (n d : Nat) (U V : Int) (w : World) (hn : n ≤ 100000) (hn2 : 2 ≤ n) (hU : 0 ≤ U) (hU' : U < bp (n + 1)) (hV' : V < bp n) (hV1 : bp (n - 1) ≤ V) (B : Nat)
    (hu : ∀ j, j < n + 1 → w.cell? ⟨g, o + j, none⟩ = some (.int .u64 (lz U j))) (hv : Row w B a n V) :
    Calls Tryz.prog 227 #[.slice (some ⟨g, o, none⟩) (n + 1) c, .slice a n d] w (GivesW (est U V n) w) := by
  obtain ⟨g', o', rfl, hg', hcv⟩ := hv (by omega)
  have u1 := hu n (by omega)
  have u2 := hu (n - 1) (by omega)
  have u3 := hu (n - 2) (by omega)
  have v1 := hcv (n - 1) (by omega)
  have v2 := hcv (n - 2) (by omega)
  have bu1 := lz_bd U n
  have bu2 := lz_bd U (n - 1)
  have bu3 := lz_bd U (n - 2)
  have bv1 := lz_bd V (n - 1)
  have bv2 := lz_bd V (n - 2)
  have eu1 := div_split U n
  have eu2 := div_split U (n - 1)
  have eu3 := div_split U (n - 2)
  have ev1 := div_split V (n - 1)
  have ev2 := div_split V (n - 2)
  rw [div_zero hU hU'] at eu1
  rw [show n - 1 + 1 = n by omega] at eu2 ev1
  rw [show n - 2 + 1 = n - 1 by omega] at eu3 ev2
  rw [div_zero (by have := bp_pos (n - 1); omega) hV'] at ev1
  have hy1 := Int.ediv_le_ediv (bp_pos (n - 1)) hV1
  rw [Int.ediv_self (by have := bp_pos (n - 1); omega)] at hy1
  unfold est
  clear hu hcv hv hU' hV' hV1
  generalize lz U n = a1 at *
  generalize lz U (n - 1) = a2 at *
  generalize lz U (n - 2) = a3 at *
  generalize lz V (n - 1) = b1 at *
  generalize lz V (n - 2) = b2 at *
  have hT : U / bp (n - 2) = (a1 * 1000000000 + a2) * 1000000000 + a3 := by omega
  have hD : V / bp (n - 2) = b1 * 1000000000 + b2 := by omega
  rw [hT, hD]
  obtain ⟨T, hT2⟩ : ∃ T, a1 * 1000000000 + a2 = T := ⟨_, rfl⟩
  obtain ⟨D, hD2⟩ : ∃ D, b1 * 1000000000 + b2 = D := ⟨_, rfl⟩
  rw [hT2, hD2]
  have hb1 : 1 ≤ b1 := by omega
  have t0 : 0 ≤ T := by omega
  have t1 : T ≤ 999999999999999999 := by omega
  have d0 : 1000000000 ≤ D := by omega
  have d1 : D ≤ 999999999999999999 := by omega
  obtain ⟨H, hH⟩ : ∃ H, T * 1000000000 / 18446744073709551616 = H := ⟨_, rfl⟩
  obtain ⟨L, hL⟩ : ∃ L, T * 1000000000 % 18446744073709551616 = L := ⟨_, rfl⟩
  have h0 : 0 ≤ H := by omega
  have h1 : H ≤ 54210109 := by omega
  have l0 : 0 ≤ L := by omega
  have l1 : L ≤ 18446744073709551615 := by omega
  have hm := fun w => mul64_int T 1000000000 w t0 (by omega) (by omega) (by omega)
  rw [hH, hL] at hm
  have hm' := Lib.hid hm
  obtain ⟨S, hS⟩ : ∃ S, (L + a3) % 18446744073709551616 = S := ⟨_, rfl⟩
  obtain ⟨C, hC⟩ : ∃ C, (L + a3) / 18446744073709551616 = C := ⟨_, rfl⟩
  have s0 : 0 ≤ S := by omega
  have s1 : S ≤ 18446744073709551615 := by omega
  have c0 : 0 ≤ C := by omega
  have c1 : C ≤ 1 := by omega
  obtain ⟨r, hr⟩ := div64_any (H + C) S D (by omega) (by omega) s0 s1 (by omega)
  have hfin : (H + C) * 18446744073709551616 + S = T * 1000000000 + a3 := by omega
  rw [hfin] at hr
  have hrq := fun (w : World) (n : Nat) => div_quiet (hr (w.drewN n))
  have HR := Lib.hid hrq
  have HT := Lib.hid hT2
  have HD := Lib.hid hD2
  have i1 : (0 : Int) ≤ (n : Int) - 1 := by omega
  have i2 : (n : Int) - 1 < (n : Int) + 1 := by omega
  have i3 : (0 : Int) ≤ (n : Int) - 2 := by omega
  have x1 : IntKind.u64.wrap (a1 * 1000000000) = a1 * 1000000000 := by rw [IntKind.wrap_u64]; omega
  have x2 : IntKind.u64.wrap (a1 * 1000000000 + a2) = T := by rw [IntKind.wrap_u64]; omega
  have x3 : IntKind.u64.wrap (b1 * 1000000000) = b1 * 1000000000 := by rw [IntKind.wrap_u64]; omega
  have x4 : IntKind.u64.wrap (b1 * 1000000000 + b2) = D := by rw [IntKind.wrap_u64]; omega
  have x5 : IntKind.u64.wrap (H + C) = H + C := by rw [IntKind.wrap_u64]; omega
  clear hm hr hrq hfin hT hD eu1 eu2 eu3 ev1 ev2 hy1 hH hL hT2 hD2
  have HS := Lib.hid hS
  have HC := Lib.hid hC
  have X3 := Lib.hid x3
  have X4 := Lib.hid x4
  have X5 := Lib.hid x5
  have b1' : bu1.1 = bu1.1 := rfl
  clear hS hC x3 x4 x5 b1'
  go_enter Tryz.func227, Tryz.ntmps227
  go_wp2_with fail
  go_quiet (fail)
  clear x1 x2
  go_wp2_with fail
  refine (hm'.out _).mono ?_
  rintro e w' ⟨rfl, rfl⟩
  have ha := fun w => add64_run L a3 w l0 bu3.1
  rw [HS.out, HC.out] at ha
  go_wp2_with fail
  clear ha
  obtain ⟨wd, hwd⟩ : ∃ wd, wd = w.drewN nq := ⟨_, rfl⟩
  have v1' : wd.cell? ⟨g', o' + (n - 1), none⟩ = some (.int .u64 b1) := by rw [hwd]; exact v1
  have v2' : wd.cell? ⟨g', o' + (n - 2), none⟩ = some (.int .u64 b2) := by rw [hwd]; exact v2
  rw [← hwd]
  have HW := Lib.hid hwd
  clear hwd v1 v2 u1 u2 u3
  have x3 := X3.out
  have x4 := X4.out
  have x5 := X5.out
  have i4 : (1 : Int) ≤ (n : Int) := by omega
  have i5 : (2 : Int) ≤ (n : Int) := by omega
  have i6 : (n : Int) - 1 < (n : Int) := by omega
  have i7 : (n : Int) - 2 < (n : Int) := by omega
  have k1 : ((n : Int) - 1).toNat = n - 1 := by omega
  have k2 : ((n : Int) - 2).toNat = n - 2 := by omega
  have j1 : IntKind.i64.wrap ((n : Int) - 1) = (n : Int) - 1 := by rw [IntKind.wrap_i64]; omega
  have j2 : IntKind.i64.wrap ((n : Int) - 2) = (n : Int) - 2 := by rw [IntKind.wrap_i64]; omega
  go_quiet ((go_at_call 239; exact HR.out _ _))
  clear x3 x4 x5 j1 j2 k1 k2
  go_wp2
  go_ret
  exact ⟨_, rfl, by rw [HW.out, World.drewN_drewN]⟩

theorem estimate_one (g o c : Nat) (a : Option Addr) (n d : Nat) (U V : Int) (w : World) (hn : n = 1) (hU : 0 ≤ U) (hU' : U < bp 2) (hV' : V < bp 1) (hV1 : 1 ≤ V) (B : Nat)
    (hu : ∀ j, j < 2 → w.cell? ⟨g, o + j, none⟩ = some (.int .u64 (lz U j))) (hv : Row w B a 1 V) :
    Calls Tryz.prog 227 #[.slice (some ⟨g, o, none⟩) (n + 1) c, .slice a n d] w (GivesW (U / V) w) := by
  obtain ⟨g', o', rfl, hg', hcv⟩ := hv (by omega)
  have u1 := hu n (by omega)
  have u2 := hu (n - 1) (by omega)
  have v1 := hcv 0 (by omega)
  have bu1 := lz_bd U 1
  have bu2 := lz_bd U 0
  have eu1 := div_split U 1
  have eu2 := div_split U 0
  rw [div_zero hU hU'] at eu1
  rw [div_bp_zero, show 0 + 1 = 1 from rfl] at eu2
  have hV : lz V 0 = V := by unfold lz; rw [div_bp_zero]; rw [bp_one] at hV'; omega
  rw [hV, Nat.add_zero] at v1
  rw [bp_one] at hV'
  have e1 : lz U n = lz U 1 := by rw [hn]
  have e2 : lz U (n - 1) = lz U 0 := by rw [hn]
  rw [e1] at u1
  rw [e2] at u2
  clear hu hcv hv hU' hV e1 e2
  generalize lz U 1 = a1 at *
  generalize lz U 0 = a2 at *
  have hT : a1 * 1000000000 + a2 = U := by omega
  have x1 : IntKind.u64.wrap (a1 * 1000000000) = a1 * 1000000000 := by rw [IntKind.wrap_u64]; omega
  have x2 : IntKind.u64.wrap (a1 * 1000000000 + a2) = U := by rw [IntKind.wrap_u64]; omega
  have hU2 : U ≤ 999999999999999999 := by omega
  obtain ⟨g1, g2⟩ : 0 ≤ U / V ∧ U / V ≤ U := ⟨Int.ediv_nonneg hU (by omega), Int.ediv_le_self _ hU⟩
  have hz : (V == 0) = false := by simp; omega
  have hn1 : n ≤ 100000 := by omega
  have i1 : (0 : Int) ≤ (n : Int) - 1 := by omega
  have i2 : (n : Int) - 1 < (n : Int) + 1 := by omega
  have i4 : (1 : Int) ≤ (n : Int) := by omega
  have ht : ((n : Int) == 1) = true := by simp; omega
  clear eu1 eu2 hT hn
  go_enter Tryz.func227, Tryz.ntmps227
  go_wp2_with fail
  go_quiet (fail)
  clear x1 x2
  go_wp2
  go_ret
  exact ⟨_, rfl, rfl⟩
theorem estimate_any (g o c : Nat) (a : Option Addr) (n d : Nat) (U V : Int) (w : World) (hn : n ≤ 100000) (hn1 : 1 ≤ n) (hU : 0 ≤ U) (hU' : U < bp (n + 1)) (hV' : V < bp n) (hV1 : bp (n - 1) ≤ V) (B : Nat)
    (hu : ∀ j, j < n + 1 → w.cell? ⟨g, o + j, none⟩ = some (.int .u64 (lz U j))) (hv : Row w B a n V) :
    Calls Tryz.prog 227 #[.slice (some ⟨g, o, none⟩) (n + 1) c, .slice a n d] w (GivesW (est U V n) w) := by
  rcases Nat.lt_or_ge 1 n with h | h
  · exact estimate_many g o c a n d U V w hn h hU hU' hV' hV1 B hu hv
  · obtain rfl : n = 1 := by omega
    rw [est_one]
    exact estimate_one g o c a 1 d U V w rfl hU hU' hV' (by rw [show 1 - 1 = 0 from rfl, bp_zero] at hV1; exact hV1) B hu hv
end Go.Proofs.YtkhebidmfjbhaaaGreatDoor
namespace Go.Proofs.YtkhebidmfjbhaaaGreatDoor
open Go.RowKit

set_option maxHeartbeats 1000000 in
theorem product_words (p v q u : Value) (x y : Int) (w : World) (hu : NatV w p v x) (hv : NatV w q u y) (hx : nl x ≤ 2) (hy : nl y ≤ 2) (hs : x * y ≤ 18446744073709551615) :
    Calls Tryz.prog 171 #[.agg #[p, v], .agg #[q, u]] w (GivesN (x * y) w) := by
  have hx0 := hu.1
  have hy0 := hv.1
  have hx1 := (nl_word hx0).1 hx
  have hy1 := (nl_word hy0).1 hy
  have hxy := Int.mul_nonneg hx0 hy0
  have hw1 := fun W (hb : Below w.heap.size w W) => isWord_yes _ _ x W (hu.below hb) hx
  have hw2 := fun W (hb : Below w.heap.size w W) => isWord_yes _ _ y W (hv.below hb) hy
  have hmu := fun W => mul64_int x y W hx0 (by omega) hy0 (by omega)
  rw [Int.ediv_eq_zero_of_lt hxy (by omega), Int.emod_eq_of_lt hxy (by omega)] at hmu
  obtain ⟨z, hz⟩ : ∃ z, z = x * y := ⟨_, rfl⟩
  rw [← hz] at hmu hxy hs ⊢
  clear hz
  obtain ⟨rfl, rfl⟩ := hu.small hx
  obtain ⟨rfl, rfl⟩ := hv.small hy
  have HW1 := Lib.hid hw1
  have HW2 := Lib.hid hw2
  have HMU := Lib.hid hmu
  have hB := Box2.new w (.int .u64 x) (.slice none 0 0) (.int .u64 y) (.slice none 0 0) 72
  obtain ⟨W0, hW0⟩ : ∃ W0, W0 = (((w.alloc (.cells #[.int .u64 x, .slice none 0 0] 72)).alloc (.cells #[.int .u64 y, .slice none 0 0] 72)).alloc (.cells #[.int .u64 0, .slice none 0 0] 72)) := ⟨_, rfl⟩
  rw [← hW0] at hB
  have HB := Lib.hid hB
  obtain ⟨_, _, c00, c01, c10, c11, _⟩ := hB
  clear hu hv hw1 hw2 hx hy hmu
  go_enter Tryz.func171, Tryz.ntmps171
  go_wp2_with fail
  rw [← hW0]
  clear hW0
  refine (HW1.out _ HB.out.below).mono ?_
  rintro e w1 ⟨rfl, rfl⟩
  have B1 := Lib.hid (HB.out.step (alloc_below W0 (.cells #[.int .u64 x, .slice none 0 0] 72)))
  generalize W0.alloc (.cells #[.int .u64 x, .slice none 0 0] 72) = W1 at *
  clear c00 c01 c10 c11
  obtain ⟨_, _, c00, c01, c10, c11, _⟩ := B1.out
  go_wp2_with fail
  refine (HW2.out _ B1.out.below).mono ?_
  rintro e w1 ⟨rfl, rfl⟩
  have B2 := Lib.hid (B1.out.step (alloc_below W1 (.cells #[.int .u64 y, .slice none 0 0] 72)))
  generalize W1.alloc (.cells #[.int .u64 y, .slice none 0 0] 72) = W2 at *
  clear c00 c01 c10 c11
  obtain ⟨_, _, c00, c01, c10, c11, _⟩ := B2.out
  go_wp2_with fail
  refine (HMU.out W2).mono ?_
  rintro e w' ⟨rfl, rfl⟩
  go_wp2_with fail
  refine (nof_any z W2 hxy hs).mono ?_
  rintro e w3 ⟨p3, v3, rfl, hv3, hb3⟩
  have B3 := Lib.hid (B2.out.step hb3)
  have HV3 := Lib.hid hv3
  obtain ⟨t3, a3, n3, rfl, rfl, ht3, hn3, _, _, _, _⟩ := hv3.form
  have HT3 := Lib.hid ht3
  have HN3 := Lib.hid hn3
  clear c00 c01 c10 c11 hv3 hb3 ht3 hn3
  obtain ⟨_, _, _, _, _, _, ⟨r0, r1, r2, r3⟩⟩ := B3.out
  go_wp2
  exact bodyPost_ret (v := .agg #[.int .u64 t3, .slice a3 n3 n3]) (by simp [results, Tryz.results171, go_sem, r0, r1]) rfl (B3.out.fin HV3.out)

/-- Which way the product of rows is reached. -/
inductive ProdWay (x y : Int) : Prop
  | first (h : 2 < nl x)
  | second (h : nl x ≤ 2) (h2 : 2 < nl y)
  | third (h : nl x ≤ 2) (h2 : nl y ≤ 2) (h3 : 18446744073709551615 < x * y)
theorem high_ne {z : Int} (h : 18446744073709551615 < z) : (z / 18446744073709551616 == 0) = false := beq_eq_false_iff_ne.2 (by omega)
set_option maxHeartbeats 4000000 in
set_option maxRecDepth 100000 in
theorem product_rows (p v q u : Value) (x y : Int) (w : World) (hu : NatV w p v x) (hv : NatV w q u y) (hx : nl x ≤ 40000) (hy : nl y ≤ 40000) (hl : ProdWay x y) :
    Calls Tryz.prog 171 #[.agg #[p, v], .agg #[q, u]] w (GivesN (x * y) w) := by
  have hx0 := hu.1
  have hy0 := hv.1
  obtain ⟨n, hn⟩ : ∃ n, n = nl x := ⟨_, rfl⟩
  obtain ⟨m, hm⟩ : ∃ m, m = nl y := ⟨_, rfl⟩
  have HX : Hid (x < bp n) := by show _ < _; rw [hn]; exact nl_lt hx0
  have HY : Hid (y < bp m) := by show _ < _; rw [hm]; exact nl_lt hy0
  have hn4 : n ≤ 40000 := by omega
  have hm4 : m ≤ 40000 := by omega
  have hmk := mk_u64 (n + m) (by omega)
  rw [show ((n + m : Nat) : Int) = (n : Int) + (m : Int) by omega] at hmk
  have SX := Lib.hid (fun W (hb : Below w.heap.size w W) => spread_any p v x w W hu hb)
  have SY := Lib.hid (fun W (hb : Below w.heap.size w W) => spread_any q u y w W hv hb)
  have HN := Lib.hid hn
  have HM := Lib.hid hm
  have HMK := Lib.hid hmk
  obtain ⟨t, a, n0, rfl, rfl, ht, hn0, _, _, _, _⟩ := hu.form
  obtain ⟨s, b, m0, rfl, rfl, hs, hm0, _, _, _, _⟩ := hv.form
  have MU : Hid (nl x ≤ 2 → nl y ≤ 2 → ∀ W, Calls Tryz.prog 199 #[.int .u64 t, .int .u64 s] W fun e w' => e = .returned (.tuple #[.int .u64 (x * y / 18446744073709551616), .int .u64 (x * y % 18446744073709551616)]) ∧ W = w') :=
    fun h1 h2 W => by rw [ht, hs, wd_word h1, wd_word h2]; exact mul64_int x y W hx0 (by have := (nl_word hx0).1 h1; omega) hy0 (by have := (nl_word hy0).1 h2; omega)
  have hB := Box2.new w (.int .u64 t) (.slice a n0 n0) (.int .u64 s) (.slice b m0 m0) 72
  obtain ⟨W0, hW0⟩ : ∃ W0, W0 = (((w.alloc (.cells #[.int .u64 t, .slice a n0 n0] 72)).alloc (.cells #[.int .u64 s, .slice b m0 m0] 72)).alloc (.cells #[.int .u64 0, .slice none 0 0] 72)) := ⟨_, rfl⟩
  rw [← hW0] at hB
  have HB := Lib.hid hB
  have WX := Lib.hid (fun W (hb : Below w.heap.size w W) => isWord_any _ _ x W (hu.below hb))
  have WY := Lib.hid (fun W (hb : Below w.heap.size w W) => isWord_any _ _ y W (hv.below hb))
  obtain ⟨_, _, c00, c01, c10, c11, _⟩ := hB
  clear hu hv ht hs hn0 hm0 hn hm hmk hx hy
  go_enter Tryz.func171, Tryz.ntmps171
  go_wp2_with fail
  rw [← hW0]
  clear hW0
  refine (WX.out _ HB.out.below).mono ?_
  rintro e w1 ⟨rfl, rfl⟩
  have B1 := Lib.hid (HB.out.step (alloc_below W0 (.cells #[.int .u64 t, .slice a n0 n0] 72)))
  generalize W0.alloc (.cells #[.int .u64 t, .slice a n0 n0] 72) = W1 at *
  clear c00 c01 c10 c11 HB
  obtain ⟨_, _, c00, c01, c10, c11, _⟩ := B1.out
  rcases hl with hl | ⟨hl, hl2⟩ | ⟨hl, hl2, hl3⟩
  all_goals (first | (rw [decide_eq_false (show ¬ nl x ≤ 2 by omega)]; go_wp2_with fail; rename World => W2; have B2 := B1; clear B1) | (rw [decide_eq_true hl]; go_wp2_with fail; refine (WY.out _ B1.out.below).mono ?_; rintro e w1 ⟨rfl, rfl⟩; have B2 := Lib.hid (B1.out.step (alloc_below W1 (.cells #[.int .u64 s, .slice b m0 m0] 72))); generalize W1.alloc (.cells #[.int .u64 s, .slice b m0 m0] 72) = W2 at *; clear c00 c01 c10 c11 B1; obtain ⟨_, _, c00, c01, c10, c11, _⟩ := B2.out; (first | (rw [decide_eq_false (show ¬ nl y ≤ 2 by omega)]; go_wp2_with fail) | (rw [decide_eq_true hl2]; have hhi := high_ne hl3; go_wp2_with fail; refine (MU.out hl hl2 W2).mono ?_; rintro e w' ⟨rfl, rfl⟩; obtain ⟨hi, hhi2⟩ : ∃ hi, hi = x * y / 18446744073709551616 := ⟨_, rfl⟩; obtain ⟨lo, hlo2⟩ : ∃ lo, lo = x * y % 18446744073709551616 := ⟨_, rfl⟩; rw [← hhi2] at hhi ⊢; rw [← hlo2]; clear hhi2 hlo2; go_wp2_with fail))))
  all_goals
    have ST := B2
    clear B2 WX WY MU
    go_region_held3 (fun W => W.cell? ⟨w.heap.size, 0, none⟩ = some (.int .u64 t) ∧ W.cell? ⟨w.heap.size, 1, none⟩ = some (.slice a n0 n0) ∧ W.cell? ⟨w.heap.size + 1, 0, none⟩ = some (.int .u64 s) ∧ W.cell? ⟨w.heap.size + 1, 1, none⟩ = some (.slice b m0 m0)) (exact ⟨c00, c01, c10, c11⟩) (first | (go_at_call 200; (with_reducible refine Calls.mono (SX.out _ ?hv) ?_); (case hv => first | exact ST.out.below | exact (ST.out.step (below_drew _)).below); rintro e w5 ⟨a5, rfl, hr5, hb5⟩; replace hb5 := below_undrew hb5; rw [← HN.out] at hr5; have R5 := Lib.hid hr5.row; replace ST := Lib.hid (ST.out.step hb5); clear c00 c01 c10 c11; have c00 := ST.out.p0; have c01 := ST.out.p1; have c10 := ST.out.q0; have c11 := ST.out.q1; rw [← HN.out]; clear hr5 hb5) | (go_at_call 200; (with_reducible refine Calls.mono (SY.out _ ?hv) ?_); (case hv => exact ST.out.below); rintro e w6 ⟨a6, rfl, hr6, hb6⟩; rw [← HM.out] at hr6; have R6 := Lib.hid hr6.row; replace R5 := Lib.hid ((R5.out.below hb6).mono hb6.size); replace ST := Lib.hid (ST.out.step hb6); clear c00 c01 c10 c11; have c00 := ST.out.p0; have c01 := ST.out.p1; have c10 := ST.out.q0; have c11 := ST.out.q1; rw [← HM.out]; clear hr6 hb6))
    have hmk := HMK.out
    have hF := Fresh.made w6 (n + m)
    have HF := Lib.hid hF
    clear c00 c01 c10 c11 hF HMK
    go_wp2
    clear hmk
    go_loopw [45] (fun i wr => ∃ k : Nat, k ≤ n ∧ i = .int .i64 k ∧ Fresh w6 wr w6.heap.size (n + m) (pz x y k)) (fun i _ => n - (intOf i).toNat)
    case atStart => exact ⟨0, by omega, rfl, by rw [pz_zero]; exact HF.out⟩
    case round =>
      obtain ⟨k, hk, rfl, hFr⟩ := hrel
      have HR := Lib.hid hFr
      clear hFr HF
      by_cases hlt : k < n
      · obtain ⟨g, o, rfl, hg, hcx⟩ := R5.out (by omega)
        have h1 := (below_at HR.out.below (o + k) hg).trans (hcx k hlt)
        have hb1 := lz_bd x k
        have hpc := pc_zero x y k
        have PC := Lib.hid hpc
        clear hcx hpc
        obtain ⟨lx, hlx⟩ : ∃ lx, lx = lz x k := ⟨_, rfl⟩
        rw [← hlx] at h1 hb1
        have HLX := Lib.hid hlx
        clear hlx
        rename World => wo
        go_wp2
        go_loopw [12, 52] (fun c j wr => ∃ p : Nat, p ≤ m ∧ j = .int .i64 p ∧ c = .int .u64 (pc x y k p) ∧ Cells wo wr w6.heap.size 0 (n + m) (fun q => if q < k + p then lz (pz x y (k + 1)) q else lz (pz x y k) q)) (fun _ j _ => m - (intOf j).toNat)
        case atStart =>
          exact ⟨0, by omega, rfl, by rw [PC.out], (Cells.start HR.out.cells).cong (fun q _ => by
            by_cases h : q < k + 0
            · rw [if_pos h, pz_low x y (by omega)]
            · rw [if_neg h])⟩
        case round =>
          obtain ⟨p, hp, rfl, rfl, hC⟩ := hrel
          have HC := Lib.hid hC
          clear hC
          by_cases hpm : p < m
          · obtain ⟨g', o', rfl, hg', hcy⟩ := R6.out (by omega)
            have h2 := (HC.out.other (i := o' + p) (show g' ≠ w6.heap.size by omega)).trans ((below_at HR.out.below (o' + p) hg').trans (hcy p hpm))
            have h3 := HC.out.cells (k + p) (by omega)
            rw [if_neg (by omega), Nat.zero_add] at h3
            have h4 := (HC.out.frozen (k + p)).trans (HR.out.free' (k + p) (by omega))
            have hb2 := lz_bd y p
            have hb3 := lz_bd (pz x y k) (k + p)
            obtain ⟨q0, q1⟩ := pc_bd x y k p
            have hst := pc_step x y k p
            rw [← HLX.out] at hst
            have ST2 := Lib.hid hst
            clear hcy hst
            generalize lz y p = ly at *
            generalize lz (pz x y k) (k + p) = lc at *
            generalize pc x y k p = c at *
            obtain ⟨m0', m1'⟩ := limb_mul hb1 hb2
            go_wp2
            go_roundw
            case rel => exact ⟨p + 1, by omega, by go_num, by rw [← ST2.out.2], by
              have := HC.out.set (i := k + p) (by omega) _ (f' := fun q => if q < k + (p + 1) then lz (pz x y (k + 1)) q else lz (pz x y k) q) (fun q hq => by
                by_cases e : q = k + p
                · subst e; rw [if_pos (by omega), if_pos rfl, ← ST2.out.1]
                · rw [if_neg e]; by_cases h : q < k + p
                  · rw [if_pos h, if_pos (by omega)]
                  · rw [if_neg h, if_neg (by omega)])
              rw [Nat.zero_add] at this
              exact this⟩
            case measure => simp [intOf]; omega
          · obtain rfl : p = m := by omega
            have h3 := HC.out.cells (k + p) (by omega)
            rw [Nat.zero_add] at h3
            have h4 := (HC.out.frozen (k + p)).trans (HR.out.free' (k + p) (by omega))
            have hla := pc_last x k hy0 HY.out
            have LA := Lib.hid hla
            clear hla
            have hal : Cells wo (wr.setCell ⟨w6.heap.size, k + p, none⟩ (.int .u64 (pc x y k p))) w6.heap.size 0 (n + p) (lz (pz x y (k + 1))) := by
              have := HC.out.set (i := k + p) (by omega) (pc x y k p) (f' := lz (pz x y (k + 1))) (fun q hq => by
                by_cases e : q = k + p
                · subst e; rw [if_pos rfl, LA.out]
                · rw [if_neg e]; by_cases h : q < k + p
                  · rw [if_pos h]
                  · rw [if_neg h, pz_high x k q hy0 HY.out (by omega)])
              rwa [Nat.zero_add] at this
            have AL := Lib.hid hal
            clear hal
            go_wp2
            go_roundw
            case rel => exact ⟨k + 1, by omega, by go_num, HR.out.wrote AL.out⟩
            case measure => simp [intOf]; omega
      · obtain rfl : k = n := by omega
        go_wp2_with fail
        refine (trim_any _ (k + m) (k + m) (pz x y k) _ (pz_bd x k hy0 HY.out).1 (pz_bd x k hy0 HY.out).2 (by omega) (by omega) HR.out.row).mono ?_
        rintro e w9 ⟨p9, v9, rfl, hv9, hb9⟩
        have FI := Lib.hid ((ST.out.step HR.out.below).step hb9)
        rw [pz_end y hx0 HX.out] at hv9
        have HV9 := Lib.hid hv9
        obtain ⟨t9, a9, n9, rfl, rfl, ht9, hn9, _, _, _, _⟩ := hv9.form
        have HT9 := Lib.hid ht9
        have HN9 := Lib.hid hn9
        clear hv9 hb9 ht9 hn9
        obtain ⟨_, _, _, _, _, _, ⟨r0, r1, r2, r3⟩⟩ := FI.out
        go_wp2
        exact bodyPost_ret (v := .agg #[.int .u64 t9, .slice a9 n9 n9]) (by simp [results, Tryz.results171, go_sem, r0, r1]) rfl (FI.out.fin HV9.out)
theorem product_any (p v q u : Value) (x y : Int) (w : World) (hu : NatV w p v x) (hv : NatV w q u y) (hx : nl x ≤ 40000) (hy : nl y ≤ 40000) :
    Calls Tryz.prog 171 #[.agg #[p, v], .agg #[q, u]] w (GivesN (x * y) w) := by
  by_cases h1 : 2 < nl x
  · exact product_rows p v q u x y w hu hv hx hy (.first h1)
  · by_cases h2 : 2 < nl y
    · exact product_rows p v q u x y w hu hv hx hy (.second (by omega) h2)
    · by_cases h3 : x * y ≤ 18446744073709551615
      · exact product_words p v q u x y w hu hv (by omega) (by omega) h3
      · exact product_rows p v q u x y w hu hv hx hy (.third (by omega) (by omega) (by omega))
end Go.Proofs.YtkhebidmfjbhaaaGreatDoor
namespace Go.Proofs.YtkhebidmfjbhaaaGreatDoor
open Go.RowKit

set_option maxHeartbeats 2000000 in
theorem times_bc (p v q u : Value) (b c bc : Bool) (hbc : (b != c) = bc) (x y : Int) (w : World) (hu : NatV w p v x) (hv : NatV w q u y) (hx : nl x ≤ 40000) (hy : nl y ≤ 40000) (z : Int) (hz : (if bc = true then -(x * y) else x * y) = z) :
    Calls Tryz.prog 134 #[.agg #[p, v, .bool b], .agg #[q, u, .bool c]] w (GivesZ z w) := by
  have OP := Lib.hid (fun W (h : Below w.heap.size w W) => product_any _ _ _ _ x y W (hu.below h) (hv.below h) hx hy)
  have hbc2 : (!(b == c)) = bc := hbc
  obtain ⟨t, a, n, rfl, rfl, -, -, -, -, -, -⟩ := hu.form
  obtain ⟨s, d, m, rfl, rfl, -, -, -, -, -, -⟩ := hv.form
  have HZ := Lib.hid hz
  have hB := Box3.new w (.int .u64 t) (.slice a n n) b (.int .u64 s) (.slice d m m) c 74
  obtain ⟨W0, hW0⟩ : ∃ W0, W0 = (((w.alloc (.cells #[.int .u64 t, .slice a n n, .bool b] 74)).alloc (.cells #[.int .u64 s, .slice d m m, .bool c] 74)).alloc (.cells #[.int .u64 0, .slice none 0 0, .bool false] 74)) := ⟨_, rfl⟩
  rw [← hW0] at hB
  have ST := Lib.hid hB
  obtain ⟨hsz, _, c00, c01, c02, c10, c11, c12, _⟩ := hB
  clear hu hv hx hy hz
  go_enter Tryz.func134, Tryz.ntmps134
  go_wp2_with fail
  rw [← hW0]
  clear hW0
  go_region_held3 (fun W => W.cell? ⟨w.heap.size, 0, none⟩ = some (.int .u64 t) ∧ W.cell? ⟨w.heap.size, 1, none⟩ = some (.slice a n n) ∧ W.cell? ⟨w.heap.size, 2, none⟩ = some (.bool b) ∧ W.cell? ⟨w.heap.size + 1, 0, none⟩ = some (.int .u64 s) ∧ W.cell? ⟨w.heap.size + 1, 1, none⟩ = some (.slice d m m) ∧ W.cell? ⟨w.heap.size + 1, 2, none⟩ = some (.bool c)) (first | exact ⟨c00, c01, c02, c10, c11, c12⟩ | exact ⟨(far3 (by omega)).trans c00, (far3 (by omega)).trans c01, (far3 (by omega)).trans c02, (far3 (by omega)).trans c10, (far3 (by omega)).trans c11, (far3 (by omega)).trans c12⟩) (first | (go_at_call 171; (with_reducible refine Calls.mono (OP.out _ ?hv) ?_); (case hv => first | exact ST.out.below | exact (ST.out.step (below_drew _)).below); rintro e w5 ⟨p5, v5, rfl, hv5, hb5⟩; replace hb5 := below_undrew hb5; have H5 := Lib.hid hv5; replace ST := Lib.hid (ST.out.step hb5); clear c00 c01 c02 c10 c11 c12; have c00 := ST.out.p0; have c01 := ST.out.p1; have c02 := ST.out.p2; have c10 := ST.out.q0; have c11 := ST.out.q1; have c12 := ST.out.q2; clear hv5 hb5) | (go_at_call 170; (with_reducible refine Calls.mono (signed_any p5 v5 bc (x * y) w5 H5.out) ?_); rw [HZ.out]; rintro e w6 ⟨p6, v6, rfl, hv6, hb6⟩; have H6 := Lib.hid hv6; obtain ⟨s6, hs6⟩ : ∃ s6, s6 = decide (z < 0) := ⟨_, rfl⟩; rw [← hs6]; have HS6 := Lib.hid hs6; replace ST := Lib.hid (ST.out.step hb6); clear c00 c01 c02 c10 c11 c12; have c00 := ST.out.p0; have c01 := ST.out.p1; have c02 := ST.out.p2; have c10 := ST.out.q0; have c11 := ST.out.q1; have c12 := ST.out.q2; obtain ⟨r0, r1, r2, r3, r4, r5⟩ := ST.out.res; have hsz6 := ST.out.sz; obtain ⟨t9, a9, n9, rfl, rfl, -, -, -, -, -, -⟩ := hv6.form; clear hv6 hb6 hs6))
  all_goals
    go_wp2
    exact bodyPost_ret (v := .agg #[.int .u64 t9, .slice a9 n9 n9, .bool s6]) (by simp [results, Tryz.results134, go_sem, r0, r1, r2]) rfl (ST.out.fin H6.out HS6.out)
theorem Times_any (p v q u : Value) (b c : Bool) (x y : Int) (w : World) (hu : NatV w p v x.natAbs) (hv : NatV w q u y.natAbs) (hb : b = decide (x < 0)) (hc : c = decide (y < 0)) (hx : nl x.natAbs ≤ 40000) (hy : nl y.natAbs ≤ 40000) :
    Calls Tryz.prog 134 #[.agg #[p, v, .bool b], .agg #[q, u, .bool c]] w (GivesZ (x * y) w) := by
  refine times_bc p v q u b c _ rfl _ _ w hu hv hx hy _ ?_
  have e1 : (x.natAbs : Int) = if x < 0 then -x else x := by split <;> omega
  have e2 : (y.natAbs : Int) = if y < 0 then -y else y := by split <;> omega
  rw [e1, e2, hb, hc]
  by_cases h1 : x < 0 <;> by_cases h2 : y < 0 <;> simp [h1, h2, Int.neg_mul, Int.mul_neg]

set_option maxHeartbeats 2000000 in
theorem Minus_any (p v q u : Value) (b c : Bool) (x y : Int) (w : World) (hu : NatV w p v x.natAbs) (hv : NatV w q u y.natAbs) (hb : b = decide (x < 0)) (hc : c = decide (y < 0)) (hx : nl x.natAbs ≤ 50000) (hy : nl y.natAbs ≤ 50000) :
    Calls Tryz.prog 165 #[.agg #[p, v, .bool b], .agg #[q, u, .bool c]] w (GivesZ (x - y) w) := by
  obtain ⟨z, hz⟩ : ∃ z, z = x - y := ⟨_, rfl⟩
  rw [← hz]
  have NG := Lib.hid (fun W (h : Below w.heap.size w W) => Negative_any q u y c W (hv.below h) hc)
  have PL := Lib.hid (fun W (h : Below w.heap.size w W) (q' u' : Value) (s : Bool) (hs : s = decide (-y < 0)) (hn : NatV W q' u' (-y).natAbs) => Plus_any p v q' u' b s x (-y) W (hu.below h) hn hb hs hx (by rw [Int.natAbs_neg]; exact hy))
  rw [show x + -y = z by omega] at PL
  obtain ⟨t, a, n, rfl, rfl, -, -, -, -, -, -⟩ := hu.form
  obtain ⟨s, d, m, rfl, rfl, -, -, -, -, -, -⟩ := hv.form
  have hB := Box3.new w (.int .u64 t) (.slice a n n) b (.int .u64 s) (.slice d m m) c 74
  obtain ⟨W0, hW0⟩ : ∃ W0, W0 = (((w.alloc (.cells #[.int .u64 t, .slice a n n, .bool b] 74)).alloc (.cells #[.int .u64 s, .slice d m m, .bool c] 74)).alloc (.cells #[.int .u64 0, .slice none 0 0, .bool false] 74)) := ⟨_, rfl⟩
  rw [← hW0] at hB
  have ST := Lib.hid hB
  obtain ⟨hsz, _, c00, c01, c02, c10, c11, c12, _⟩ := hB
  clear hu hv hx hy hz hb hc
  go_enter Tryz.func165, Tryz.ntmps165
  go_wp2_with fail
  rw [← hW0]
  clear hW0
  go_region_held3 (fun W => W.cell? ⟨w.heap.size, 0, none⟩ = some (.int .u64 t) ∧ W.cell? ⟨w.heap.size, 1, none⟩ = some (.slice a n n) ∧ W.cell? ⟨w.heap.size, 2, none⟩ = some (.bool b) ∧ W.cell? ⟨w.heap.size + 1, 0, none⟩ = some (.int .u64 s) ∧ W.cell? ⟨w.heap.size + 1, 1, none⟩ = some (.slice d m m) ∧ W.cell? ⟨w.heap.size + 1, 2, none⟩ = some (.bool c)) (first | exact ⟨c00, c01, c02, c10, c11, c12⟩ | exact ⟨(far3 (by omega)).trans c00, (far3 (by omega)).trans c01, (far3 (by omega)).trans c02, (far3 (by omega)).trans c10, (far3 (by omega)).trans c11, (far3 (by omega)).trans c12⟩) (first | (go_at_call 159; (with_reducible refine Calls.mono (NG.out _ ?hv) ?_); (case hv => first | exact ST.out.below | exact (ST.out.step (below_drew _)).below); rintro e w5 ⟨p5, v5, rfl, hv5, hb5⟩; replace hb5 := below_undrew hb5; obtain ⟨s5, hs5⟩ : ∃ s5, s5 = decide (-y < 0) := ⟨_, rfl⟩; rw [← hs5]; have HS5 := Lib.hid hs5; have H5 := Lib.hid hv5; replace ST := Lib.hid (ST.out.step hb5); clear c00 c01 c02 c10 c11 c12; have c00 := ST.out.p0; have c01 := ST.out.p1; have c02 := ST.out.p2; have c10 := ST.out.q0; have c11 := ST.out.q1; have c12 := ST.out.q2; clear hv5 hb5 hs5) | (go_at_call 148; (with_reducible refine Calls.mono (PL.out w5 ST.out.below p5 v5 s5 HS5.out H5.out) ?_); rintro e w6 ⟨p6, v6, rfl, hv6, hb6⟩; have H6 := Lib.hid hv6; obtain ⟨s6, hs6⟩ : ∃ s6, s6 = decide (z < 0) := ⟨_, rfl⟩; rw [← hs6]; have HS6 := Lib.hid hs6; replace ST := Lib.hid (ST.out.step hb6); clear c00 c01 c02 c10 c11 c12; have c00 := ST.out.p0; have c01 := ST.out.p1; have c02 := ST.out.p2; have c10 := ST.out.q0; have c11 := ST.out.q1; have c12 := ST.out.q2; obtain ⟨r0, r1, r2, r3, r4, r5⟩ := ST.out.res; have hsz6 := ST.out.sz; obtain ⟨t9, a9, n9, rfl, rfl, -, -, -, -, -, -⟩ := hv6.form; clear hv6 hb6 hs6))
  all_goals
    go_wp2
    exact bodyPost_ret (v := .agg #[.int .u64 t9, .slice a9 n9 n9, .bool s6]) (by simp [results, Tryz.results165, go_sem, r0, r1, r2]) rfl (ST.out.fin H6.out HS6.out)
end Go.Proofs.YtkhebidmfjbhaaaGreatDoor
namespace Go.Proofs.YtkhebidmfjbhaaaGreatDoor
open Go.RowKit

theorem Cells.undrew {w w' : World} {d g o n : Nat} {f : Nat → Int} (h : Cells (w.drewN d) w' g o n f) : Cells w w' g o n f := ⟨h.os, h.tape, h.output, h.size, h.block, h.cells, h.rest, h.frozen⟩
theorem Cells.andThen {w w1 w2 : World} {g o n : Nat} {f f' : Nat → Int} (h : Cells w w1 g o n f) (k : Cells w1 w2 g o n f') : Cells w w2 g o n f' :=
  ⟨k.os.trans h.os, k.tape.trans h.tape, k.output.trans h.output, k.size.trans h.size, fun b hb => (k.block b hb).trans (h.block b hb), k.cells, fun i hi => (k.rest i hi).trans (h.rest i hi), fun i => (k.frozen i).trans (h.frozen i)⟩

theorem reduce_any (g o c : Nat) (a : Option Addr) (n d : Nat) (U V : Int) (w : World) (hn : n ≤ 99999) (hn1 : 1 ≤ n) (hU : 0 ≤ U) (hUV : U < V * 1000000000) (hV' : V < bp n) (hV1 : bp (n - 1) ≤ V)
    (hu : ∀ j, j < n + 1 → w.cell? ⟨g, o + j, none⟩ = some (.int .u64 (lz U j))) (hf : ∀ j, j < n + 1 → w.frozen? ⟨g, o + j, none⟩ = false) (hv : RowX w g a n V) :
    Calls Tryz.prog 210 #[.slice (some ⟨g, o, none⟩) (n + 1) c, .slice a n d] w (GivesC (U / V) w g o (n + 1) (U % V)) := by
  have hV0 : 0 < V := by have := bp_pos (n - 1); omega
  have hU' : U < bp (n + 1) := by rw [bp_succ]; omega
  obtain ⟨e1, e2, e3⟩ := est_bd hU hV1 hn1 hUV
  have hdm := Int.emod_add_mul_ediv U V
  have hm0 := Int.emod_nonneg U (show V ≠ 0 by omega)
  have hm1 := Int.emod_lt_of_pos U hV0
  have hq0 := Int.ediv_nonneg hU (Int.le_of_lt hV0)
  rw [Int.mul_comm V] at hdm
  obtain ⟨B0, hv0⟩ := hv.row
  have hes := estimate_any g o c a n d U V w (by omega) hn1 hU hU' hV' hV1 B0 hu hv0
  have HES := Lib.hid hes
  have HU := Lib.hid hu
  have HF := Lib.hid hf
  have HV := Lib.hid hv
  obtain ⟨E, hE⟩ : ∃ E, est U V n = E := ⟨_, rfl⟩
  rw [hE] at HES e1 e2 e3
  have HB := Lib.hid hU'
  have HB2 := Lib.hid hV'
  have HD := Lib.hid hdm
  clear hes hu hf hv hv0 hE hU' hV' hdm
  rcases Int.lt_or_le (U / V) E with h | h
  · obtain rfl : E = U / V + 1 := by omega
    have hx : U - (U / V + 1) * V = U % V - V := by have := HD.out; rw [Int.add_mul, Int.one_mul]; omega
    have hneg : -((U - (U / V + 1) * V) / bp (n + 1)) = 1 := by
      rw [hx]
      have : (U % V - V) / bp (n + 1) = -1 := by
        have e : U % V - V = (U % V - V + bp (n + 1)) + bp (n + 1) * (-1) := by omega
        rw [e, add_mul_div, div_zero (by have := bp_succ n; have := HB2.out; have := bp_pos n; omega) (by omega)]
        omega
      omega
    have HN := Lib.hid hneg
    have HX := Lib.hid hx
    obtain ⟨q, hq⟩ : ∃ q, U / V = q := ⟨_, rfl⟩
    rw [hq] at HES HN HX hq0 e3 ⊢
    have HQ := Lib.hid hq
    clear hneg hx hq e1 e2 h
    go_enter Tryz.func210, Tryz.ntmps210
    go_wp2_with fail
    refine HES.out.mono ?_
    rintro e w1 ⟨d1, rfl, rfl⟩
    go_wp2_with fail
    refine (takeFrom_any g o (n + 1) c a n d U V (q + 1) (w.drewN d1) (by omega) (by omega) hU HB.out (by omega) HB2.out (by omega) e3 HU.out HF.out HV.out).mono ?_
    rintro e w2 ⟨rfl, hC⟩
    rw [HN.out]
    have hC1 := hC.undrew.cong (f' := lz (U % V - V + bp (n + 1))) (fun j hj => by rw [HX.out, show U % V - V + bp (n + 1) = (U % V - V) + bp (n + 1) * 1 by omega, lz_low _ _ hj])
    have HC := Lib.hid hC1
    clear hC hC1
    go_wp2_with fail
    refine (addTo_any g o (n + 1) c a n d (U % V - V + bp (n + 1)) V w2 (by omega) (by omega) (by have := bp_succ n; have := HB2.out; have := bp_pos n; omega) (by omega) (by omega) HB2.out HC.out.cells (fun j hj => (HC.out.frozen (o + j)).trans (HF.out j hj)) (HV.out.cells HC.out)).mono ?_
    rintro e w3 ⟨rfl, hC3⟩
    have hC4 := (HC.out.andThen hC3).cong (f' := lz (U % V)) (fun j hj => by rw [show U % V - V + bp (n + 1) + V = U % V + bp (n + 1) * 1 by omega, lz_low _ _ hj])
    have HC4 := Lib.hid hC4
    clear hC3 hC4
    go_wp2
    go_ret
    exact ⟨ret_int (by have := HQ.out; omega), HC4.out⟩
  · obtain rfl : E = U / V := by omega
    have hx : U - (U / V) * V = U % V := by have := HD.out; omega
    have hneg : -((U - (U / V) * V) / bp (n + 1)) = 0 := by
      rw [hx, div_zero hm0 (by have := HB2.out; have := bp_mono (show n ≤ n + 1 by omega); omega)]; omega
    have HN := Lib.hid hneg
    have HX := Lib.hid hx
    obtain ⟨q, hq⟩ : ∃ q, U / V = q := ⟨_, rfl⟩
    rw [hq] at HES HN HX hq0 e3 ⊢
    clear hneg hx hq e1 e2 h
    go_enter Tryz.func210, Tryz.ntmps210
    go_wp2_with fail
    refine HES.out.mono ?_
    rintro e w1 ⟨d1, rfl, rfl⟩
    go_wp2_with fail
    refine (takeFrom_any g o (n + 1) c a n d U V q (w.drewN d1) (by omega) (by omega) hU HB.out (by omega) HB2.out (by omega) e3 HU.out HF.out HV.out).mono ?_
    rintro e w2 ⟨rfl, hC⟩
    rw [HN.out]
    have hC1 := hC.undrew.cong (f' := lz (U % V)) (fun j hj => by rw [HX.out])
    have HC := Lib.hid hC1
    clear hC hC1
    go_wp2
    go_ret
    exact ⟨rfl, HC.out⟩

/-! ### The places of a division -/
/-- The quotient of x and V from place k on. -/
def dq (x V : Int) (k : Nat) : Int := bp k * (x / bp k / V)
/-- The rest of the division from place k on. -/
def dr (x V : Int) (k : Nat) : Int := x % bp k + bp k * (x / bp k % V)
theorem dq_zero (x V : Int) : dq x V 0 = x / V := by unfold dq; rw [div_bp_zero, bp_zero, Int.one_mul]
theorem dr_zero (x V : Int) : dr x V 0 = x % V := by unfold dr; rw [div_bp_zero, bp_zero, Int.one_mul]; omega
theorem d_start {x V : Int} {n m : Nat} (h0 : 0 ≤ x) (hx : x < bp (n + m)) (hV : bp n ≤ V) : dq x V m = 0 ∧ dr x V m = x := by
  have h1 : 0 ≤ x / bp m := Int.ediv_nonneg h0 (Int.le_of_lt (bp_pos m))
  have h2 : x / bp m < bp n := Int.ediv_lt_of_lt_mul (bp_pos m) (by rw [bp_add, Int.mul_comm] at hx; rw [Int.mul_comm]; exact hx)
  unfold dq dr
  rw [Int.ediv_eq_zero_of_lt h1 (by omega), Int.emod_eq_of_lt h1 (by omega), Int.mul_zero, Int.emod_add_mul_ediv]
  exact ⟨rfl, rfl⟩
/-- The window at place i. -/
def dw (x V : Int) (i : Nat) : Int := dr x V (i + 1) / bp i
theorem dw_eq (x V : Int) (i : Nat) : dw x V i = 1000000000 * (x / bp (i + 1) % V) + lz x i := by
  unfold dw dr
  rw [mod_succ, bp_succ, Int.mul_comm 1000000000, Int.mul_assoc, Int.add_assoc, ← Int.mul_add, add_mul_div]
  have := mod_bd x i
  rw [Int.ediv_eq_zero_of_lt this.1 this.2]
  omega
theorem dw_bd {x V : Int} (i : Nat) (hV : 0 < V) : 0 ≤ dw x V i ∧ dw x V i < V * 1000000000 := by
  rw [dw_eq]
  have h1 := Int.emod_nonneg (x / bp (i + 1)) (show V ≠ 0 by omega)
  have h2 := Int.emod_lt_of_pos (x / bp (i + 1)) hV
  have h3 := lz_bd x i
  omega
theorem dw_div {x V : Int} (i : Nat) (hV : 0 < V) : x / bp i / V = 1000000000 * (x / bp (i + 1) / V) + dw x V i / V ∧ x / bp i % V = dw x V i % V := by
  have e : x / bp i = dw x V i + V * (1000000000 * (x / bp (i + 1) / V)) := by
    rw [dw_eq, div_split x i]
    have := Int.emod_add_mul_ediv (x / bp (i + 1)) V
    rw [Int.mul_left_comm]
    omega
  rw [e, Int.add_mul_ediv_left _ _ (by omega), Int.add_mul_emod_self_left]
  exact ⟨by omega, rfl⟩
theorem dr_div (x V : Int) (i : Nat) : dr x V i / bp i = x / bp i % V := by
  unfold dr
  have := mod_bd x i
  rw [add_mul_div, Int.ediv_eq_zero_of_lt this.1 this.2]
  omega
theorem dr_low (x V : Int) {i j : Nat} (h : j < i) : lz (dr x V i) j = lz x j := by
  unfold dr
  rw [lz_low _ _ h]
  have e := Int.emod_add_mul_ediv x (bp i)
  rw [← e, lz_low _ _ h, e]
theorem dr_win {x V : Int} (i j : Nat) (hV : 0 < V) : lz (dr x V i) (i + j) = lz (dw x V i % V) j := by
  rw [← lz_shift, dr_div, (dw_div i hV).2]
theorem dr_win' (x V : Int) (i j : Nat) : lz (dr x V (i + 1)) (i + j) = lz (dw x V i) j := by
  rw [← lz_shift]; rfl
theorem dr_bd {x V : Int} {n : Nat} (i : Nat) (hV : 0 < V) (hV' : V < bp n) : 0 ≤ dr x V i ∧ dr x V i < bp (i + n) := by
  unfold dr
  have h1 := Int.emod_nonneg (x / bp i) (show V ≠ 0 by omega)
  have h2 := Int.emod_lt_of_pos (x / bp i) hV
  have h3 := mod_bd x i
  have h4 := bp_pos i
  have h5 := Int.mul_le_mul_of_nonneg_left (show x / bp i % V + 1 ≤ bp n by omega) (Int.le_of_lt h4)
  have h6 := Int.mul_nonneg (Int.le_of_lt h4) h1
  rw [Int.mul_add, Int.mul_one] at h5
  rw [bp_add]
  omega
theorem dq_at {x V : Int} (i : Nat) (hV : 0 < V) : lz (dq x V i) i = dw x V i / V := by
  have hb := dw_bd (x := x) i hV
  have q0 := Int.ediv_nonneg hb.1 (Int.le_of_lt hV)
  have q1 : dw x V i / V < 1000000000 := Int.ediv_lt_of_lt_mul hV (by rw [Int.mul_comm]; exact hb.2)
  unfold lz dq
  rw [Int.mul_ediv_cancel_left _ (by have := bp_pos i; omega), (dw_div i hV).1]
  omega
theorem dq_low (x V : Int) {i j : Nat} (h : j < i) : lz (dq x V i) j = 0 := by
  have e : dq x V i = 0 + bp i * (x / bp i / V) := by unfold dq; omega
  rw [e, lz_low _ _ h, lz_zero]
theorem dq_high {x V : Int} {i j : Nat} (hV : 0 < V) (h : i < j) : lz (dq x V i) j = lz (dq x V (i + 1)) j := by
  have hb := dw_bd (x := x) i hV
  have q0 := Int.ediv_nonneg hb.1 (Int.le_of_lt hV)
  have q1 : dw x V i / V < 1000000000 := Int.ediv_lt_of_lt_mul hV (by rw [Int.mul_comm]; exact hb.2)
  obtain ⟨k, rfl⟩ : ∃ k, j = (i + 1) + k := ⟨j - (i + 1), by omega⟩
  have e1 : dq x V (i + 1) / bp (i + 1) = x / bp (i + 1) / V := by unfold dq; rw [Int.mul_ediv_cancel_left _ (by have := bp_pos (i + 1); omega)]
  have e2 : dq x V i / bp (i + 1) = x / bp (i + 1) / V := by
    rw [div_succ]
    unfold dq
    rw [Int.mul_ediv_cancel_left _ (by have := bp_pos i; omega), (dw_div i hV).1]
    omega
  rw [← lz_shift, ← lz_shift, e1, e2]
end Go.Proofs.YtkhebidmfjbhaaaGreatDoor
