/-
  What the reference's Times returns.
  Which texts are integers to the reference, and small facts.
  The text of a rational number, and what join returns.
  What number returns: the integer that a text is.
  What strings.Cut returns for the separator "/".
-/
import Derived.Test.YtkhebidmfjbhaaaGreatDoorZ27
import Derived.BigRegion
import Derived.Test.YtkhebidmfjbhaaaGreatDoorZ24
import Derived.Test.YtkhebidmfjbhaaaGreatDoorZ25
import Derived.Deep.RegionHeld3
import Derived.Deep.Cut
import Derived.Test.YtkhebidmfjbhaaaGreatDoorZ05
import Derived.BigQuiet
namespace Go.Proofs.YtkhebidmfjbhaaaGreatDoor
open Go.RowKit

/-- The number that m cells make from cell i on. -/
def tl (f : Nat → Int) : Nat → Nat → Int
  | _, 0 => 0
  | i, m + 1 => f i + 10 * tl f (i + 1) m
def upd (f : Nat → Int) (i : Nat) (v : Int) : Nat → Int := fun j => if j = i then v else f j
theorem upd_same (f : Nat → Int) (i : Nat) (v : Int) : upd f i v i = v := by unfold upd; rw [if_pos rfl]
theorem upd_other (f : Nat → Int) {i j : Nat} (v : Int) (h : j ≠ i) : upd f i v j = f j := by unfold upd; rw [if_neg h]
theorem tl_low (f : Nat → Int) (t : Nat) (v : Int) : ∀ (m i : Nat), t < i → tl (upd f t v) i m = tl f i m
  | 0, _, _ => rfl
  | m + 1, i, h => by
    rw [tl, tl, tl_low f t v m (i + 1) (by omega), upd_other f v (by omega)]
theorem tl_upd (f : Nat → Int) (v : Int) : ∀ (m i t : Nat), t < m → tl (upd f (i + t) v) i m = tl f i m + (v - f (i + t)) * Ten.bp t
  | m + 1, i, 0, _ => by
    rw [tl, tl, Nat.add_zero, tl_low f i v m (i + 1) (by omega), upd_same, Ten.bp_zero]
    omega
  | m + 1, i, t + 1, h => by
    have ih := tl_upd f v m (i + 1) t (by omega)
    rw [show i + 1 + t = i + (t + 1) by omega] at ih
    rw [tl, tl, ih, upd_other f v (by omega), Ten.bp_succ, Int.mul_add, ← Int.mul_assoc, Int.mul_comm 10 (v - f (i + (t + 1))), Int.mul_assoc]
    omega
theorem tl_none : ∀ (m i : Nat), tl (fun _ => 0) i m = 0
  | 0, _ => rfl
  | m + 1, i => by rw [tl, tl_none m (i + 1)]; rfl
theorem carry_step {f : Nat → Int} {i m : Nat} {P : Int} (h : tl f i (m + 2) = P / Ten.bp i) :
    f i % 10 = Ten.lz P i ∧ tl (upd (upd f (i + 1) (f (i + 1) + f i / 10)) i (f i % 10)) (i + 1) (m + 1) = P / Ten.bp (i + 1) := by
  have h1 := tl_upd f (f (i + 1) + f i / 10) (m + 1) (i + 1) 0 (by omega)
  rw [Nat.add_zero, Ten.bp_zero] at h1
  rw [tl_low _ _ _ _ _ (by omega), h1, Ten.div_succ]
  unfold Ten.lz
  rw [← h, tl]
  generalize tl f (i + 1) (m + 1) = T
  omega
theorem conv_step {X Y V : Int} {i j : Nat} (h : V = X % Ten.bp i * Y + Ten.bp i * Ten.lz X i * (Y % Ten.bp j)) (v f : Int) (hv : v = f + Ten.lz X i * Ten.lz Y j) :
    V + (v - f) * Ten.bp (i + j) = X % Ten.bp i * Y + Ten.bp i * Ten.lz X i * (Y % Ten.bp (j + 1)) := by
  rw [h, hv, Ten.mod_succ Y j, Int.mul_add, Ten.bp_add]
  have e : (f + Ten.lz X i * Ten.lz Y j - f) * (Ten.bp i * Ten.bp j) = Ten.bp i * Ten.lz X i * (Ten.bp j * Ten.lz Y j) := by
    rw [show f + Ten.lz X i * Ten.lz Y j - f = Ten.lz X i * Ten.lz Y j by omega]
    ac_rfl
  rw [e]
  omega
theorem conv_end {X Y V : Int} {i k : Nat} (hY0 : 0 ≤ Y) (hY : Y < Ten.bp k) (h : V = X % Ten.bp i * Y + Ten.bp i * Ten.lz X i * (Y % Ten.bp k)) : V = X % Ten.bp (i + 1) * Y := by
  rw [h, Ten.mod_self hY0 hY, Ten.mod_succ, Int.add_mul]
theorem dig_mul {a b : Int} (ha : 0 ≤ a ∧ a < 10) (hb : 0 ≤ b ∧ b < 10) : 0 ≤ a * b ∧ a * b ≤ 81 := by
  have h1 := Int.mul_nonneg ha.1 hb.1
  have h2 := Int.mul_le_mul_of_nonneg_right (show a ≤ 9 by omega) hb.1
  omega
/-- Block g of w1 is the call's own: L ints f 0, f 1 .. -/
structure RowI (w w1 : World) (g L : Nat) (f : Nat → Int) : Prop where
  below : Below w.heap.size w w1
  ge : w.heap.size ≤ g
  lt : g < w1.heap.size
  cells : ∀ j, j < L → w1.cell? ⟨g, j, none⟩ = some (.int .i64 (f j))
  free : ∀ j, j < L → w1.frozen? ⟨g, j, none⟩ = false
theorem mk_i64 (n : Nat) (hn : n ≤ 1000000) (w : World) : (Instr.makeSlice 133 (.int .i64 (n : Int)) (.int .i64 (n : Int))).run Tryz.prog w = .ok (.slice (some ⟨w.heap.size, 0, none⟩) n n) (w.alloc (.cells (madeCells #[.int .i64 0] n) 3)) :=
  run_make_row' _ _ (.int .i64 0) 8 und64i infoI64 rfl .i64 .i64 n (by omega) (by omega) w
theorem made_int (n j : Nat) (h : j < n) : (madeCells #[Value.int .i64 0] n)[j]? = some (.int .i64 0) := by
  unfold madeCells
  simp [h, Nat.mod_one]
theorem RowI.made (w : World) (L : Nat) : RowI w (w.alloc (.cells (madeCells #[.int .i64 0] L) 3)) w.heap.size L (fun _ => 0) where
  below := (Below.refl _ _).alloc (Nat.le_refl _) _
  ge := Nat.le_refl _
  lt := by simp
  cells := fun j hj => by rw [World.cell?_alloc_new, made_int L j hj]
  free := fun j hj => by rw [World.frozen?_alloc_new]
theorem RowI.set {w w1 : World} {g L : Nat} {f : Nat → Int} (h : RowI w w1 g L f) (i : Nat) (hi : i < L) (t : Int) : RowI w (w1.setCell ⟨g, i, none⟩ (.int .i64 t)) g L (upd f i t) where
  below := below_set h.below i h.ge _
  ge := h.ge
  lt := by rw [World.size_setCell]; exact h.lt
  cells := fun j hj => by
    by_cases hji : j = i
    · subst hji; rw [upd_same, World.cell?_setCell_same w1 _ _ (h.cells j hj)]
    · rw [upd_other f t hji, World.cell?_setCell_other w1 _ _ _ (by intro e; injection e; omega), h.cells j hj]
  free := fun j hj => by rw [World.frozen?_setCell]; exact h.free j hj
theorem RowI.drewN {w w1 : World} {g L : Nat} {f : Nat → Int} (h : RowI w w1 g L f) (q : Nat) : RowI w (w1.drewN q) g L f := ⟨below_drewN h.below q, h.ge, h.lt, h.cells, h.free⟩
theorem RowI.drew {w w1 : World} {g L : Nat} {f : Nat → Int} (h : RowI w w1 g L f) : RowI w w1.drew g L f := ⟨h.below.drew, h.ge, h.lt, h.cells, h.free⟩
theorem RowI.row {w w1 : World} {g L : Nat} {f : Nat → Int} {P : Int} (h : RowI w w1 g L f) (hf : ∀ j, j < L → f j = Ten.lz P j) : RowD w1 w1.heap.size (some ⟨g, 0, none⟩) L P := fun _ => ⟨g, 0, rfl, h.lt, fun j hj => by rw [Nat.zero_add, h.cells j hj, hf j hj]⟩
theorem rtimes_short (x y : Int) (w : World) (h1 : dn x ≤ 9) (h2 : dn y ≤ 9) :
    Calls Tryz.prog 130 #[.string (tx x), .string (tx y)] w (GivesY (tx (x * y)) w) := by
  have SX := Lib.hid (fun W => rshort_yes x W h1)
  have SY := Lib.hid (fun W => rshort_yes y W h2)
  obtain ⟨e1, e2⟩ := sv_bd h1
  obtain ⟨e3, e4⟩ := sv_bd h2
  have hb : -9223372036854775808 ≤ x * y ∧ x * y ≤ 9223372036854775807 := by
    have h3 : (x * y).natAbs ≤ 1000000000 * 1000000000 := by rw [Int.natAbs_mul]; exact Nat.mul_le_mul (by omega) (by omega)
    omega
  obtain ⟨e5, e6⟩ := hb
  have NB := Lib.hid (fun W => rnumber_any (x * y) W e5 e6)
  obtain ⟨A, hA⟩ : ∃ T, T = tx x := ⟨_, rfl⟩
  obtain ⟨B, hB⟩ : ∃ T, T = tx y := ⟨_, rfl⟩
  obtain ⟨T, hT⟩ : ∃ T, T = tx (x * y) := ⟨_, rfl⟩
  rw [← hA] at SX ⊢
  rw [← hB] at SY ⊢
  rw [← hT] at NB ⊢
  clear hA hB hT h1 h2
  go_enter Tryz.func130, Tryz.ntmps130
  go_wp2_with fail
  refine (SX.out w).mono ?_
  rintro e w' ⟨rfl, rfl⟩
  go_wp2_with fail
  refine (SY.out w).mono ?_
  rintro e w' ⟨rfl, rfl⟩
  go_wp2_with fail
  refine (NB.out w).mono ?_
  rintro e w' ⟨rfl, hb⟩
  have HB := Lib.hid hb
  clear hb
  go_wp2
  go_ret
  exact ⟨rfl, HB.out⟩
set_option maxHeartbeats 40000000 in
set_option maxRecDepth 100000 in
theorem rtimes_long (x y : Int) (w : World) (hx : dn x ≤ 50000) (hy : dn y ≤ 50000) (h9 : ¬ (dn x ≤ 9 ∧ dn y ≤ 9)) :
    Calls Tryz.prog 130 #[.string (tx x), .string (tx y)] w (GivesY (tx (x * y)) w) := by
  have SX := Lib.hid (fun W => rshort_any x W (by omega))
  have SY := Lib.hid (fun W => rshort_any y W (by omega))
  obtain ⟨b1, hb1⟩ : ∃ b, b = decide (dn x ≤ 9) := ⟨_, rfl⟩
  obtain ⟨b2, hb2⟩ : ∃ b, b = decide (dn y ≤ 9) := ⟨_, rfl⟩
  obtain ⟨m1, hm1⟩ : ∃ m, m = sv x := ⟨_, rfl⟩
  obtain ⟨m2, hm2⟩ : ∃ m, m = sv y := ⟨_, rfl⟩
  obtain ⟨A, hA⟩ : ∃ T, T = tx x := ⟨_, rfl⟩
  obtain ⟨B, hB⟩ : ∃ T, T = tx y := ⟨_, rfl⟩
  rw [← hb1, ← hm1, ← hA] at SX
  rw [← hb2, ← hm2, ← hB] at SY
  have hbb : b1 = false ∨ b1 = true ∧ b2 = false := by
    rw [hb1, hb2]
    by_cases h1 : dn x ≤ 9 <;> by_cases h2 : dn y ≤ 9 <;> simp [h1, h2]
    exact h9 ⟨h1, h2⟩
  obtain ⟨px, hpx⟩ : ∃ b, b = decide (x < 0) := ⟨_, rfl⟩
  obtain ⟨qy, hqy⟩ : ∃ b, b = decide (y < 0) := ⟨_, rfl⟩
  obtain ⟨X, hX⟩ : ∃ X : Int, X = x.natAbs := ⟨_, rfl⟩
  obtain ⟨Y, hY⟩ : ∃ Y : Int, Y = y.natAbs := ⟨_, rfl⟩
  obtain ⟨n, hn⟩ : ∃ n, n = Ten.nl X := ⟨_, rfl⟩
  obtain ⟨k, hk⟩ : ∃ k, k = Ten.nl Y := ⟨_, rfl⟩
  have DX := Lib.hid (fun W => rdg x px X n A hpx hX hn hA W (by omega))
  have DY := Lib.hid (fun W => rdg y qy Y k B hqy hY hk hB W (by omega))
  have HX0 : Hid (0 ≤ X) := Lib.hid (by omega)
  have HY0 : Hid (0 ≤ Y) := Lib.hid (by omega)
  have HXL : Hid (X < Ten.bp n) := Lib.hid (by rw [hn]; exact Ten.nl_lt HX0.out)
  have HYL : Hid (Y < Ten.bp k) := Lib.hid (by rw [hk]; exact Ten.nl_lt HY0.out)
  have hnn : n ≤ 50000 := by
    refine Nat.le_trans (hn ▸ Ten.nl_le ?_) hx
    have := dn_lt HX0.out
    rwa [hX, dn_abs, ← hX] at this
  have hkk : k ≤ 50000 := by
    refine Nat.le_trans (hk ▸ Ten.nl_le ?_) hy
    have := dn_lt HY0.out
    rwa [hY, dn_abs, ← hY] at this
  have HN1 := Lib.hid hn
  have HN2 := Lib.hid hk
  have HR : Hid ((if (!(px == qy)) = true then -(X * Y) else X * Y) = x * y) := Lib.hid (by
    rw [hpx, hqy, hX, hY]
    by_cases h1 : x < 0 <;> by_cases h2 : y < 0
    · rw [decide_eq_true h1, decide_eq_true h2, show (x.natAbs : Int) = -x by omega, show (y.natAbs : Int) = -y by omega, Int.neg_mul_neg]; rfl
    · rw [decide_eq_true h1, decide_eq_false h2, show (x.natAbs : Int) = -x by omega, show (y.natAbs : Int) = y by omega, Int.neg_mul, Int.neg_neg]; rfl
    · rw [decide_eq_false h1, decide_eq_true h2, show (x.natAbs : Int) = x by omega, show (y.natAbs : Int) = -y by omega, Int.mul_neg, Int.neg_neg]; rfl
    · rw [decide_eq_false h1, decide_eq_false h2, show (x.natAbs : Int) = x by omega, show (y.natAbs : Int) = y by omega]; rfl)
  obtain ⟨sg, hsg⟩ : ∃ sg, (!(px == qy)) = sg := ⟨_, rfl⟩
  rw [hsg] at HR
  obtain ⟨P, hP⟩ : ∃ P, P = X * Y := ⟨_, rfl⟩
  rw [← hP] at HR
  have HP := Lib.hid hP
  have HP0 : Hid (0 ≤ P) := Lib.hid (by rw [hP]; exact Int.mul_nonneg HX0.out HY0.out)
  have HPL : Hid (P < Ten.bp (n + k)) := Lib.hid (by rw [hP]; exact Ten.mul_lt_bp HX0.out HY0.out HXL.out HYL.out)
  have MK := Lib.hid (mk_i64 (n + k + 1) (by omega))
  rw [show ((n + k + 1 : Nat) : Int) = (n : Int) + (k : Int) + 1 by omega] at MK
  have hmk := MK.out
  rw [← hA, ← hB]
  clear hb1 hb2 hm1 hm2 hA hB hpx hqy hX hY hn hk hx hy h9 hP MK
  go_enter Tryz.func130, Tryz.ntmps130
  go_wp2_with fail
  refine (SX.out w).mono ?_
  rintro e w' ⟨rfl, rfl⟩
  go_wp2_with fail
  refine (SY.out w).mono ?_
  rintro e w' ⟨rfl, rfl⟩
  rcases hbb with rfl | ⟨rfl, rfl⟩
  all_goals
    go_wp2_with fail
    refine (DX.out w).mono ?_
    rintro e w1 ⟨a1, c1, rfl, hc1, hr1, hb1⟩
    have R1 := Lib.hid hr1
    have B1 := Lib.hid hb1
    clear hr1 hb1 hc1
    go_wp2_with fail
    refine (DY.out w1).mono ?_
    rintro e w2 ⟨a2, c2, rfl, hc2, hr2, hb2⟩
    replace R1 := Lib.hid (R1.out.below hb2)
    have R2 := Lib.hid hr2
    have B2 := Lib.hid (B1.out.trans (hb2.mono B1.out.size))
    have HF := Lib.hid (RowI.made w2 (n + k + 1))
    obtain ⟨g, hg⟩ : ∃ g, g = w2.heap.size := ⟨_, rfl⟩
    rw [← hg] at HF
    have HG := Lib.hid hg
    clear hr2 hb2 hc2
    go_wp2_with fail
    rw [← hg]
    clear hg
    go_loopw [14] (fun vi wr => ∃ (i : Nat) (f : Nat → Int), i ≤ n ∧ vi = .int .i64 i ∧ RowI w2 wr g (n + k + 1) f ∧ Hid (tl f 0 (n + k + 1) = X % Ten.bp i * Y) ∧ Hid (∀ t, 0 ≤ f t ∧ f t ≤ 81 * i)) (fun vi _ => n - (intOf vi).toNat)
    case atStart => exact ⟨0, fun _ => 0, by omega, rfl, HF.out, Lib.hid (by rw [tl_none, Ten.mod_zero, Int.zero_mul]), Lib.hid (fun t => ⟨Int.le_refl _, by show (0 : Int) ≤ _; omega⟩)⟩
    case round =>
      clear HF
      obtain ⟨i, f, hi, rfl, hrow, hval, hbd⟩ := hrel
      have RW := Lib.hid hrow
      clear hrow
      by_cases hin : i < n
      · obtain ⟨g1, o1, rfl, hg1, hcx⟩ := R1.out (by omega)
        have hx1 := hcx i hin
        have hlx := Ten.lz_bd X i
        have HX1 : Hid (∀ W, Below w2.heap.size w2 W → W.cell? ⟨g1, o1 + i, none⟩ = some (.int .i64 (Ten.lz X i))) := Lib.hid (fun W hW => (below_at hW (o1 + i) hg1).trans hx1)
        clear hcx hx1
        obtain ⟨lx, hlxe⟩ : ∃ lx, lx = Ten.lz X i := ⟨_, rfl⟩
        rw [← hlxe] at hlx HX1
        have HLX := Lib.hid hlxe
        have hvs : tl f 0 (n + k + 1) = X % Ten.bp i * Y + Ten.bp i * lx * (Y % Ten.bp 0) := by rw [hval.out, Ten.mod_zero, Int.mul_zero, Int.add_zero]
        have HVS := Lib.hid hvs
        clear hvs hlxe
        go_wp2_with fail
        go_loopw [15] (fun vj wr => ∃ (j : Nat) (f : Nat → Int), j ≤ k ∧ vj = .int .i64 j ∧ RowI w2 wr g (n + k + 1) f ∧ Hid (tl f 0 (n + k + 1) = X % Ten.bp i * Y + Ten.bp i * lx * (Y % Ten.bp j)) ∧ Hid (∀ t, 0 ≤ f t ∧ f t ≤ 81 * (i + 1)) ∧ Hid (∀ t, i + j ≤ t → f t ≤ 81 * i)) (fun vj _ => k - (intOf vj).toNat)
        case atStart => exact ⟨0, f, by omega, rfl, RW.out, HVS, Lib.hid (fun t => ⟨(hbd.out t).1, by have := (hbd.out t).2; omega⟩), Lib.hid (fun t _ => (hbd.out t).2)⟩
        case round =>
          clear RW HVS hval hbd f
          obtain ⟨j, f, hj, rfl, hrow, hval, hbd, hbd2⟩ := hrel
          have RW := Lib.hid hrow
          clear hrow
          by_cases hjk : j < k
          · obtain ⟨g2, o2, rfl, hg2, hcy⟩ := R2.out (by omega)
            have c1 := HX1.out _ RW.out.below
            have c2 := (below_at RW.out.below (o2 + j) hg2).trans (hcy j hjk)
            have c3 := RW.out.cells (i + j) (by omega)
            have c4 := RW.out.free (i + j) (by omega)
            have hly := Ten.lz_bd Y j
            obtain ⟨m0, m1⟩ := dig_mul hlx hly
            have hcv := conv_step (X := X) (Y := Y) (V := tl f 0 (n + k + 1)) (i := i) (j := j) (by rw [← HLX.out]; exact hval.out) (f (i + j) + lx * Ten.lz Y j) (f (i + j)) (by rw [← HLX.out])
            have hup := tl_upd f (f (i + j) + lx * Ten.lz Y j) (n + k + 1) 0 (i + j) (by omega)
            rw [Nat.zero_add, hcv, ← HLX.out] at hup
            obtain ⟨f0, f1⟩ := hbd.out (i + j)
            have f2 := hbd2.out (i + j) (Nat.le_refl _)
            have hi5 : (i : Int) ≤ 50000 := by omega
            obtain ⟨ly, hlye⟩ : ∃ ly, ly = Ten.lz Y j := ⟨_, rfl⟩
            rw [← hlye] at hly m0 m1 c2 hup
            have HUP := Lib.hid hup
            have HNB : Hid (∀ t, 0 ≤ upd f (i + j) (f (i + j) + lx * ly) t ∧ upd f (i + j) (f (i + j) + lx * ly) t ≤ 81 * (i + 1)) := Lib.hid (fun t => by
              by_cases e : t = i + j
              · subst e; rw [upd_same]; omega
              · rw [upd_other _ _ e]; exact hbd.out t)
            have HNB2 : Hid (∀ t, i + (j + 1) ≤ t → upd f (i + j) (f (i + j) + lx * ly) t ≤ 81 * i) := Lib.hid (fun t ht => by
              rw [upd_other _ _ (by omega)]; exact hbd2.out t (by omega))
            have HRW := Lib.hid (RW.out.set (i + j) (by omega) (f (i + j) + lx * ly))
            clear hcy hcv hup hlye hbd hbd2 hval
            obtain ⟨fv, hfv⟩ : ∃ fv, fv = f (i + j) := ⟨_, rfl⟩
            rw [← hfv] at c3 f0 f1 f2 HUP HNB HNB2 HRW
            clear hfv
            go_wp2_with fail
            go_region
            go_wp2
            go_roundw
            case rel => exact ⟨j + 1, _, by omega, by go_num, by first | exact HRW.out.drew | exact HRW.out.drewN _ | exact (RW.out.drew.set (i + j) (by omega) _) | exact (RW.out.drewN _).set (i + j) (by omega) _, HUP, HNB, HNB2⟩
            case measure => simp [intOf]; omega
          · obtain rfl : j = k := by omega
            have hce := conv_end (X := X) (Y := Y) (V := tl f 0 (n + j + 1)) (i := i) (k := j) HY0.out HYL.out (by rw [← HLX.out]; exact hval.out)
            have HCE := Lib.hid hce
            have HBD := Lib.hid (fun t => (⟨(hbd.out t).1, by have := (hbd.out t).2; omega⟩ : 0 ≤ f t ∧ f t ≤ 81 * ((i + 1 : Nat) : Int)))
            clear hce hval hbd hbd2
            go_wp2
            go_roundw
            case rel => exact ⟨i + 1, f, by omega, by go_num, RW.out, HCE, HBD⟩
            case measure => simp [intOf]; omega
      · obtain rfl : i = n := by omega
        have hvP : tl f 0 (i + k + 1) = P / Ten.bp 0 := by rw [hval.out, Ten.mod_self HX0.out HXL.out, Ten.div_bp_zero, HP.out]
        have HVP := Lib.hid hvP
        have HB := Lib.hid (fun t => (⟨(hbd.out t).1, by have := (hbd.out t).2; omega⟩ : 0 ≤ f t ∧ f t ≤ 4050000))
        clear hvP hval hbd
        go_wp2_with fail
        go_loopw [16] (fun vj wr => ∃ (j : Nat) (f : Nat → Int), j + 1 ≤ i + k + 1 ∧ vj = .int .i64 j ∧ RowI w2 wr g (i + k + 1) f ∧ Hid (∀ t, t < j → f t = Ten.lz P t) ∧ Hid (tl f j (i + k + 1 - j) = P / Ten.bp j) ∧ Hid (∀ t, 0 ≤ f t ∧ f t ≤ 8100000) ∧ Hid (∀ t, j < t → f t ≤ 4050000)) (fun vj _ => i + k + 1 - (intOf vj).toNat)
        case atStart => exact ⟨0, f, by omega, rfl, RW.out, Lib.hid (fun t ht => absurd ht (by omega)), HVP, Lib.hid (fun t => ⟨(HB.out t).1, by have := (HB.out t).2; omega⟩), Lib.hid (fun t _ => (HB.out t).2)⟩
        case round =>
          clear RW HVP HB f
          obtain ⟨j, f, hj, rfl, hrow, hdig, hval, hbd, hbd2⟩ := hrel
          have RW := Lib.hid hrow
          clear hrow
          by_cases hjk : j + 1 < i + k + 1
          · have hjk' : (j : Int) + 1 < (i : Int) + (k : Int) + 1 := by omega
            have hv := hval.out
            rw [show i + k + 1 - j = (i + k + 1 - (j + 1) - 1) + 2 by omega] at hv
            obtain ⟨s1, s2⟩ := carry_step hv
            rw [show i + k + 1 - (j + 1) - 1 + 1 = i + k + 1 - (j + 1) by omega] at s2
            have c1 := RW.out.cells j (by omega)
            have c2 := RW.out.cells (j + 1) (by omega)
            have c3 := RW.out.free j (by omega)
            have c4 := RW.out.free (j + 1) (by omega)
            obtain ⟨f0, f1⟩ := hbd.out j
            obtain ⟨f2, f3⟩ := hbd.out (j + 1)
            have f4 := hbd2.out (j + 1) (by omega)
            have S2 := Lib.hid s2
            have HD : Hid (∀ t, t < j + 1 → upd (upd f (j + 1) (f (j + 1) + f j / 10)) j (f j % 10) t = Ten.lz P t) := Lib.hid (fun t ht => by
              by_cases e : t = j
              · subst e; rw [upd_same]; exact s1
              · rw [upd_other _ _ e, upd_other _ _ (by omega)]; exact hdig.out t (by omega))
            have HNB : Hid (∀ t, 0 ≤ upd (upd f (j + 1) (f (j + 1) + f j / 10)) j (f j % 10) t ∧ upd (upd f (j + 1) (f (j + 1) + f j / 10)) j (f j % 10) t ≤ 8100000) := Lib.hid (fun t => by
              by_cases e : t = j
              · subst e; rw [upd_same]; omega
              · rw [upd_other _ _ e]
                by_cases e2 : t = j + 1
                · subst e2; rw [upd_same]; omega
                · rw [upd_other _ _ e2]; exact hbd.out t)
            have HNB2 : Hid (∀ t, j + 1 < t → upd (upd f (j + 1) (f (j + 1) + f j / 10)) j (f j % 10) t ≤ 4050000) := Lib.hid (fun t ht => by
              rw [upd_other _ _ (by omega), upd_other _ _ (by omega)]; exact hbd2.out t (by omega))
            have HST : Hid (∀ W, RowI w2 W g (i + k + 1) f → RowI w2 (W.setCell ⟨g, j + 1, none⟩ (.int .i64 (f (j + 1) + f j / 10))) g (i + k + 1) (upd f (j + 1) (f (j + 1) + f j / 10))) := Lib.hid (fun W h => h.set (j + 1) (by omega) _)
            have HST2 : Hid (∀ W f', RowI w2 W g (i + k + 1) f' → RowI w2 (W.setCell ⟨g, j, none⟩ (.int .i64 (f j % 10))) g (i + k + 1) (upd f' j (f j % 10))) := Lib.hid (fun W f' h => h.set j (by omega) _)
            clear hv s1 s2 hval hbd hbd2 hdig
            generalize hfa : f j = fa at *
            generalize hfb : f (j + 1) = fb at *
            clear hfa hfb
            go_wp2_with fail
            go_region
            go_wp2
            go_roundw
            case rel => exact ⟨j + 1, _, by omega, by go_num, by first | exact (HST2.out _ _ (HST.out _ RW.out)).drew | exact HST2.out _ _ ((HST.out _ (RW.out.drewN _)).drewN _) | exact (HST2.out _ _ ((HST.out _ RW.out).drewN _)).drewN _ | exact HST2.out _ _ (HST.out _ RW.out), HD, S2, HNB, HNB2⟩
            case measure => simp [intOf]; omega
          · have hje : j = i + k := by omega
            have hjk' : ¬ (j : Int) + 1 < (i : Int) + (k : Int) + 1 := by omega
            have hall : ∀ t, t < i + k + 1 → f t = Ten.lz P t := fun t ht => by
              by_cases e : t = j
              · have h1 := hval.out
                rw [show i + k + 1 - j = 1 by omega, tl, tl] at h1
                rw [e]
                rw [hje] at h1 ⊢
                rw [Ten.div_zero HP0.out HPL.out] at h1
                rw [Ten.lz_high HP0.out HPL.out (Nat.le_refl _)]
                omega
              · exact hdig.out t (by omega)
            have HROW := Lib.hid (RW.out.row hall)
            have HBE := Lib.hid (B2.out.trans (RW.out.below.mono B2.out.size))
            have HPL2 : Hid (P < Ten.bp (i + k + 1)) := Lib.hid (Int.lt_of_lt_of_le HPL.out (Ten.bp_mono (by omega)))
            clear hall hval hdig hbd hbd2
            go_wp2_with fail
            refine (rtext_any sg (some ⟨g, 0, none⟩) (i + k + 1) (i + k + 1) P wr HP0.out HPL2.out (Nat.le_refl _) (by omega) HROW.out).mono ?_
            rintro e w4 ⟨rfl, hb4⟩
            have B4 := Lib.hid (HBE.out.trans (hb4.mono HBE.out.size))
            rw [HR.out]
            obtain ⟨T, hT⟩ : ∃ T, T = tx (x * y) := ⟨_, rfl⟩
            rw [← hT]
            have HT := Lib.hid hT
            clear hb4 hT
            go_wp2
            go_ret
            exact ⟨ret_s HT.out, B4.out⟩
theorem rtimes_any (x y : Int) (w : World) (hx : dn x ≤ 50000) (hy : dn y ≤ 50000) :
    Calls Tryz.prog 130 #[.string (tx x), .string (tx y)] w (GivesY (tx (x * y)) w) := by
  by_cases h : dn x ≤ 9 ∧ dn y ≤ 9
  · exact rtimes_short x y w h.1 h.2
  · exact rtimes_long x y w hx hy h
end Go.Proofs.YtkhebidmfjbhaaaGreatDoor
namespace Go.Proofs.YtkhebidmfjbhaaaGreatDoor
open Go.RowKit

end Go.Proofs.YtkhebidmfjbhaaaGreatDoor
namespace Go.Proofs.YtkhebidmfjbhaaaGreatDoor
open Go.RowKit

/-- The text of a rational number. -/
def qx (a : Rat) : ByteArray := if a.den = 1 then tx a.num else tx a.num ++ ⟨#[47]⟩ ++ tx a.den
theorem join_one (S T : ByteArray) (w : World) (h : (T.toList == [49]) = true) :
    Calls Tryz.prog 88 #[.string S, .string T] w (GivesY S w) := by
  go_enter Tryz.func88, Tryz.ntmps88
  go_wp2
  go_ret
  exact ⟨rfl, Below.refl _ _⟩
theorem join_two (S T : ByteArray) (w : World) (h : (T.toList == [49]) = false) (hs : S.size ≤ 100000) (ht : T.size ≤ 100000) :
    Calls Tryz.prog 88 #[.string S, .string T] w (GivesY (S ++ ⟨#[47]⟩ ++ T) w) := by
  have h1 : ¬ 9223372036854775807 < S.size + 1 := by omega
  have h2 : ¬ 9223372036854775807 < S.size + 1 + T.size := by omega
  go_enter Tryz.func88, Tryz.ntmps88
  go_wp2
  go_ret
  exact ⟨rfl, Below.refl _ _⟩
theorem tx_lit (z u : Int) (l : List UInt8) (h : Lib.itoa u = l) : ((tx z).toList == l) = decide (z = u) := by
  have h0 : (tx u).toList = l := by rw [Lib.toList_data, tx_list]; exact h
  by_cases h1 : z = u
  · rw [h1, h0, decide_eq_true rfl, beq_iff_eq]
  · rw [decide_eq_false h1, beq_eq_false_iff_ne]
    intro e
    rw [← h0, Lib.toList_data, Lib.toList_data] at e
    exact h1 (tx_inj.1 (ba_ext e))
theorem tx_den1 (n : Nat) : ((tx n).toList == [49]) = decide (n = 1) := by
  rw [tx_lit n 1 _ (by simp [Lib.itoa, Lib.decDigits])]; exact decide_eq_decide.mpr (by omega)
theorem tx_sz {z : Int} {k : Nat} (h : dn z ≤ k) : (tx z).size ≤ k + 1 := by have := tx_size z; split at this <;> omega
theorem join_qx (a : Rat) (w : World) (h : dn a.num ≤ 50000) (h' : dn a.den ≤ 50000) :
    Calls Tryz.prog 88 #[.string (tx a.num), .string (tx a.den)] w (GivesY (qx a) w) := by
  have e := tx_den1 a.den
  unfold qx
  split
  · rename_i hd
    rw [decide_eq_true hd] at e
    exact join_one _ _ w e
  · rename_i hd
    rw [decide_eq_false hd] at e
    exact join_two _ _ w e (Nat.le_trans (tx_sz h) (by omega)) (Nat.le_trans (tx_sz h') (by omega))
theorem dig_run {x : Int} {p v : Value} {b : Bool} {W : World} (hx : IntV W p v b x) : Calls Tryz.prog 151 #[.agg #[p, v]] W (GivesI (dn x) W) := by
  have h := digits_any p v _ W hx.1
  rw [dn_abs] at h
  exact h
theorem text_run {x : Int} {p v : Value} {b : Bool} {w W : World} (hx : IntV W p v b x) (tb : Tb w) (hb : Below w.heap.size w W) (h : dn x ≤ 100000) : Calls Tryz.prog 123 #[.agg #[p, v, .bool b]] W (GivesY (tx x) W) := Text_any p v x b W (tb.below hb) hx.1 hx.2 h

/-- The call hands back a text and an error's number. -/
def GivesSn (s : ByteArray) (n : Int) (w : World) (e : Ending) (w' : World) : Prop := e = .returned (.tuple #[.string s, .int .i64 n]) ∧ Below w.heap.size w w'

set_option maxHeartbeats 4000000 in
set_option maxRecDepth 100000 in
theorem rtext_ok (px vx : Value) (ix : Bool) (py vy : Value) (iy : Bool) (x y : Int) (w : World) (hx : IntV w px vx ix x) (hy : IntV w py vy iy y) (tb : Tb w) (Q : ByteArray) (hq : ∀ W, Calls Tryz.prog 88 #[.string (tx x), .string (tx y)] W (GivesY Q W)) (h1 : dn x ≤ 1000) (h2 : dn y ≤ 1000) :
    Calls Tryz.prog 103 #[.agg #[px, vx, .bool ix, py, vy, .bool iy]] w (GivesSn Q 0 w) := by
  obtain ⟨M, hM⟩ : ∃ M : Int, max (dn x : Int) (dn y : Int) = M := ⟨_, rfl⟩
  have hM2 : M ≤ 1000 := by omega
  have hM1 : decide (1000 < M) = false := decide_eq_false (by omega)
  have D1 := Lib.hid (show dn x ≤ 100000 by omega)
  have D2 := Lib.hid (show dn y ≤ 100000 by omega)
  have TB := Lib.hid tb
  obtain ⟨S, hS⟩ : ∃ S, tx x = S := ⟨_, rfl⟩
  obtain ⟨T, hT⟩ : ∃ T, tx y = T := ⟨_, rfl⟩
  rw [hS, hT] at hq
  have JO := Lib.hid hq
  have HS := Lib.hid hS
  have HT := Lib.hid hT
  clear hS hT hM2 tb
  obtain ⟨xt, xa, xn, rfl, rfl, -, -, -, -, -, -⟩ := hx.1.form
  obtain ⟨xs, hxs⟩ : ∃ s, s = ix := ⟨_, rfl⟩; subst hxs
  obtain ⟨yt, ya, yn, rfl, rfl, -, -, -, -, -, -⟩ := hy.1.form
  obtain ⟨ys, hys⟩ : ∃ s, s = iy := ⟨_, rfl⟩; subst hys
  obtain ⟨W0, hW0⟩ : ∃ W0, W0 = (w.alloc (.cells #[.int .u64 xt, .slice xa xn xn, .bool xs, .int .u64 yt, .slice ya yn yn, .bool ys] 76)) := ⟨_, rfl⟩
  have ST : St w W0 [(w.heap.size, .int .u64 xt, .slice xa xn xn, xs, .int .u64 yt, .slice ya yn yn, ys)] [] [(.int .u64 yt, .slice ya yn yn, ys, y), (.int .u64 xt, .slice xa xn xn, xs, x)] := by
    rw [hW0]
    exact (((St.zero).know hx).know hy).allocR (k := w.heap.size) (t := 76) (by first | rfl | (simp; done) | (simp; omega))
  replace ST := Lib.hid ST
  clear hx hy h1 h2 hq
  go_enter Tryz.func103, Tryz.ntmps103
  go_wp2_with fail
  rw [← hW0]
  clear hW0
  go_upto_region 1 with fail
  go_region_held3 (fun W => (W.cell? ⟨w.heap.size, 0, none⟩ = some (.int .u64 xt) ∧ W.cell? ⟨w.heap.size, 1, none⟩ = some (.slice xa xn xn) ∧ W.cell? ⟨w.heap.size, 2, none⟩ = some (.bool xs) ∧ W.cell? ⟨w.heap.size, 3, none⟩ = some (.int .u64 yt) ∧ W.cell? ⟨w.heap.size, 4, none⟩ = some (.slice ya yn yn) ∧ W.cell? ⟨w.heap.size, 5, none⟩ = some (.bool ys))) ((exact St.rat (w := w) (by ((with_reducible iterate 4 try first | apply St.drew | apply St.alloc | apply St.allocR | apply St.putR); ((with_reducible exact ST.out); all_goals (first | rfl | (simp; done) | (simp; omega))))) (by with_reducible ((repeat ((fail_if_success exact mem0); apply List.mem_cons_of_mem)); exact mem0)))) (first | (go_at_call 151; refine St.arm (w := w) (by ((with_reducible iterate 4 try first | apply St.drew | apply St.alloc | apply St.allocR | apply St.putR); ((with_reducible exact ST.out); all_goals (first | rfl | (simp; done) | (simp; omega))))) (by intro H; with_reducible exact dig_run (x := x) (H.int (by with_reducible ((repeat ((fail_if_success exact mem0); apply List.mem_cons_of_mem)); exact mem0)))) ?_; rintro e w1 ⟨⟨rfl, hb1⟩, H⟩; replace ST := Lib.hid (H.call hb1); clear hb1 H) | (go_at_call 151; refine St.arm (w := w) (by ((with_reducible iterate 4 try first | apply St.drew | apply St.alloc | apply St.allocR | apply St.putR); ((with_reducible exact ST.out); all_goals (first | rfl | (simp; done) | (simp; omega))))) (by intro H; with_reducible exact dig_run (x := y) (H.int (by with_reducible ((repeat ((fail_if_success exact mem0); apply List.mem_cons_of_mem)); exact mem0)))) ?_; rintro e w2 ⟨⟨rfl, hb2⟩, H⟩; replace ST := Lib.hid (H.call hb2); clear hb2 H) | fail)
  go_upto_region 3 with fail
  go_region_held3 (fun W => (W.cell? ⟨w.heap.size, 0, none⟩ = some (.int .u64 xt) ∧ W.cell? ⟨w.heap.size, 1, none⟩ = some (.slice xa xn xn) ∧ W.cell? ⟨w.heap.size, 2, none⟩ = some (.bool xs) ∧ W.cell? ⟨w.heap.size, 3, none⟩ = some (.int .u64 yt) ∧ W.cell? ⟨w.heap.size, 4, none⟩ = some (.slice ya yn yn) ∧ W.cell? ⟨w.heap.size, 5, none⟩ = some (.bool ys))) ((exact St.rat (w := w) (by ((with_reducible iterate 4 try first | apply St.drew | apply St.alloc | apply St.allocR | apply St.putR); ((with_reducible exact ST.out); all_goals (first | rfl | (simp; done) | (simp; omega))))) (by with_reducible ((repeat ((fail_if_success exact mem0); apply List.mem_cons_of_mem)); exact mem0)))) (first | (go_at_call 123; refine St.arm (w := w) (by ((with_reducible iterate 4 try first | apply St.drew | apply St.alloc | apply St.allocR | apply St.putR); ((with_reducible exact ST.out); all_goals (first | rfl | (simp; done) | (simp; omega))))) (by intro H; with_reducible exact text_run (x := x) (H.int (by with_reducible ((repeat ((fail_if_success exact mem0); apply List.mem_cons_of_mem)); exact mem0))) TB.out H.below D1.out) ?_; rintro e w3 ⟨⟨rfl, hb3⟩, H⟩; replace ST := Lib.hid (H.call hb3); clear hb3 H; rw [HS.out]) | (go_at_call 123; refine St.arm (w := w) (by ((with_reducible iterate 4 try first | apply St.drew | apply St.alloc | apply St.allocR | apply St.putR); ((with_reducible exact ST.out); all_goals (first | rfl | (simp; done) | (simp; omega))))) (by intro H; with_reducible exact text_run (x := y) (H.int (by with_reducible ((repeat ((fail_if_success exact mem0); apply List.mem_cons_of_mem)); exact mem0))) TB.out H.below D2.out) ?_; rintro e w4 ⟨⟨rfl, hb4⟩, H⟩; replace ST := Lib.hid (H.call hb4); clear hb4 H; rw [HT.out]) | (go_at_call 88; refine St.arm (w := w) (by ((with_reducible iterate 4 try first | apply St.drew | apply St.alloc | apply St.allocR | apply St.putR); ((with_reducible exact ST.out); all_goals (first | rfl | (simp; done) | (simp; omega))))) (by intro H; with_reducible exact JO.out _) ?_; rintro e w5 ⟨⟨rfl, hb5⟩, H⟩; replace ST := Lib.hid (H.call hb5); clear hb5 H) | fail)
  all_goals
    go_wp2
    exact bodyPost_ret (v := .tuple #[.string Q, .int .i64 0]) (by simp [results, Tryz.results103, go_sem]) rfl ⟨rfl, ST.out.below⟩
set_option maxHeartbeats 4000000 in
set_option maxRecDepth 100000 in
theorem rtext_long (px vx : Value) (ix : Bool) (py vy : Value) (iy : Bool) (x y : Int) (w : World) (hx : IntV w px vx ix x) (hy : IntV w py vy iy y) (h : ¬ (dn x ≤ 1000 ∧ dn y ≤ 1000)) :
    Calls Tryz.prog 103 #[.agg #[px, vx, .bool ix, py, vy, .bool iy]] w (GivesSn ⟨#[]⟩ 3 w) := by
  obtain ⟨M, hM⟩ : ∃ M : Int, max (dn x : Int) (dn y : Int) = M := ⟨_, rfl⟩
  have hM1 : decide (1000 < M) = true := decide_eq_true (by omega)
  obtain ⟨xt, xa, xn, rfl, rfl, -, -, -, -, -, -⟩ := hx.1.form
  obtain ⟨xs, hxs⟩ : ∃ s, s = ix := ⟨_, rfl⟩; subst hxs
  obtain ⟨yt, ya, yn, rfl, rfl, -, -, -, -, -, -⟩ := hy.1.form
  obtain ⟨ys, hys⟩ : ∃ s, s = iy := ⟨_, rfl⟩; subst hys
  obtain ⟨W0, hW0⟩ : ∃ W0, W0 = (w.alloc (.cells #[.int .u64 xt, .slice xa xn xn, .bool xs, .int .u64 yt, .slice ya yn yn, .bool ys] 76)) := ⟨_, rfl⟩
  have ST : St w W0 [(w.heap.size, .int .u64 xt, .slice xa xn xn, xs, .int .u64 yt, .slice ya yn yn, ys)] [] [(.int .u64 yt, .slice ya yn yn, ys, y), (.int .u64 xt, .slice xa xn xn, xs, x)] := by
    rw [hW0]
    exact (((St.zero).know hx).know hy).allocR (k := w.heap.size) (t := 76) (by first | rfl | (simp; done) | (simp; omega))
  replace ST := Lib.hid ST
  clear hx hy h
  go_enter Tryz.func103, Tryz.ntmps103
  go_wp2_with fail
  rw [← hW0]
  clear hW0
  go_upto_region 1 with fail
  go_region_held3 (fun W => (W.cell? ⟨w.heap.size, 0, none⟩ = some (.int .u64 xt) ∧ W.cell? ⟨w.heap.size, 1, none⟩ = some (.slice xa xn xn) ∧ W.cell? ⟨w.heap.size, 2, none⟩ = some (.bool xs) ∧ W.cell? ⟨w.heap.size, 3, none⟩ = some (.int .u64 yt) ∧ W.cell? ⟨w.heap.size, 4, none⟩ = some (.slice ya yn yn) ∧ W.cell? ⟨w.heap.size, 5, none⟩ = some (.bool ys))) ((exact St.rat (w := w) (by ((with_reducible iterate 4 try first | apply St.drew | apply St.alloc | apply St.allocR | apply St.putR); ((with_reducible exact ST.out); all_goals (first | rfl | (simp; done) | (simp; omega))))) (by with_reducible ((repeat ((fail_if_success exact mem0); apply List.mem_cons_of_mem)); exact mem0)))) (first | (go_at_call 151; refine St.arm (w := w) (by ((with_reducible iterate 4 try first | apply St.drew | apply St.alloc | apply St.allocR | apply St.putR); ((with_reducible exact ST.out); all_goals (first | rfl | (simp; done) | (simp; omega))))) (by intro H; with_reducible exact dig_run (x := x) (H.int (by with_reducible ((repeat ((fail_if_success exact mem0); apply List.mem_cons_of_mem)); exact mem0)))) ?_; rintro e w1 ⟨⟨rfl, hb1⟩, H⟩; replace ST := Lib.hid (H.call hb1); clear hb1 H) | (go_at_call 151; refine St.arm (w := w) (by ((with_reducible iterate 4 try first | apply St.drew | apply St.alloc | apply St.allocR | apply St.putR); ((with_reducible exact ST.out); all_goals (first | rfl | (simp; done) | (simp; omega))))) (by intro H; with_reducible exact dig_run (x := y) (H.int (by with_reducible ((repeat ((fail_if_success exact mem0); apply List.mem_cons_of_mem)); exact mem0)))) ?_; rintro e w2 ⟨⟨rfl, hb2⟩, H⟩; replace ST := Lib.hid (H.call hb2); clear hb2 H) | fail)
  all_goals
    go_wp2
    exact bodyPost_ret (v := .tuple #[.string ⟨#[]⟩, .int .i64 3]) (by simp [results, Tryz.results103, go_sem]) rfl ⟨rfl, ST.out.below⟩
/-- The text of a rational number, or the error that it is too long. -/
def GivesQx (a : Rat) (w : World) (e : Ending) (w' : World) : Prop := GivesSn (if dn a.num ≤ 1000 ∧ dn a.den ≤ 1000 then qx a else ⟨#[]⟩) (if dn a.num ≤ 1000 ∧ dn a.den ≤ 1000 then 0 else 3) w e w'
theorem ratext_any (p v : Value) (b : Bool) (q u : Value) (c : Bool) (a : Rat) (w : World) (tb : Tb w) (hx : IntV w p v b a.num) (hy : IntV w q u c a.den) :
    Calls Tryz.prog 103 #[.agg #[p, v, .bool b, q, u, .bool c]] w (GivesQx a w) := by
  unfold GivesQx
  by_cases h : dn a.num ≤ 1000 ∧ dn a.den ≤ 1000
  · rw [if_pos h, if_pos h]
    exact rtext_ok p v b q u c _ _ w hx hy tb _ (fun W => join_qx a W (by omega) (by omega)) h.1 h.2
  · rw [if_neg h, if_neg h]
    exact rtext_long p v b q u c _ _ w hx hy h

end Go.Proofs.YtkhebidmfjbhaaaGreatDoor
namespace Go.Proofs.YtkhebidmfjbhaaaGreatDoor
open Go.RowKit

theorem number_tx (z : Int) (w : World) (hz : dn z ≤ 1000) :
    Calls Tryz.prog 115 #[.string (tx z)] w (GivesP z w) := by
  have VL := Lib.hid (fun w => Valid_tx z w hz)
  have CT := Lib.hid (fun w => cut_any (tx z) w)
  rw [dg_tx, neg_tx] at CT
  have RD := Lib.hid (fun w => Read_td z w (by omega))
  have S0 := Lib.hid (Res.new w 74 w.heap.size rfl)
  have B0 := Lib.hid (alloc_below w (.cells #[.int .u64 0, .slice none 0 0, .bool false] 74))
  obtain ⟨b, hb⟩ : ∃ b, b = decide (z < 0) := ⟨_, rfl⟩
  obtain ⟨D, hD⟩ : ∃ D, D = td z.natAbs := ⟨_, rfl⟩
  rw [← hb, ← hD] at CT RD
  obtain ⟨X, hX⟩ : ∃ X, X = tx z := ⟨_, rfl⟩
  rw [← hX] at CT VL ⊢
  have HB := Lib.hid hb
  clear hb hD hX
  go_enter Tryz.func115, Tryz.ntmps115
  go_wp2_with fail
  refine (VL.out _).mono ?_
  rintro e w' ⟨rfl, rfl⟩
  go_wp2_with fail
  refine (CT.out _).mono ?_
  rintro e w' ⟨rfl, rfl⟩
  go_wp2_with fail
  refine (RD.out _).mono ?_
  rintro e w2 ⟨p2, v2, rfl, hv2, hb2⟩
  rw [← HB.out]
  have S2 := Lib.hid (S0.out.below hb2 (by simp))
  have B2 := Lib.hid (B0.out.trans (hb2.mono (by simp)))
  have H2 := Lib.hid hv2
  obtain ⟨t9, a9, n9, rfl, rfl, -, -, -, -, -, -⟩ := hv2.form
  clear hv2 hb2
  obtain ⟨r0, r1, r2, r3, r4, r5⟩ := S2.out
  go_wp2
  exact bodyPost_ret (v := .tuple #[.agg #[.int .u64 t9, .slice a9 n9 n9, .bool b], .bool true]) (by simp [results, Tryz.results115, go_sem, r0, r1, r2]) rfl ⟨_, _, by rw [← HB.out], H2.out.put3 r1 r2 _ _ _, below_set (below_set (below_set B2.out 0 (Nat.le_refl _) _) 1 (Nat.le_refl _) _) 2 (Nat.le_refl _) _⟩
theorem number_no (s : ByteArray) (w : World) (hm : s.size ≤ 9223372036854775807) (h : isT s.data.toList = false) :
    Calls Tryz.prog 115 #[.string s] w (GivesP0 w) := by
  have VL := Lib.hid (fun w => Valid_bad s w hm h)
  clear h
  go_enter Tryz.func115, Tryz.ntmps115
  go_wp2_with fail
  refine (VL.out _).mono ?_
  rintro e w' ⟨rfl, rfl⟩
  go_wp2
  exact bodyPost_ret (v := .tuple #[.agg #[.int .u64 0, .slice none 0 0, .bool false], .bool false]) (by simp [results, Tryz.results115, go_sem]) rfl ⟨rfl, (Below.refl _ _).alloc (Nat.le_refl _) _⟩
end Go.Proofs.YtkhebidmfjbhaaaGreatDoor
namespace Go.Proofs.YtkhebidmfjbhaaaGreatDoor
open Go.RowKit

theorem index_no : ∀ (l : List UInt8), ¬ 47 ∈ l → Lib.indexByte l 47 = -1
  | [], _ => rfl
  | b :: l, h => by
    have h1 : ¬ b = 47 := fun e => h (by rw [e]; exact List.mem_cons_self)
    have h2 := index_no l (fun e => h (List.mem_cons_of_mem _ e))
    simp [Lib.indexByte, h1, h2]
theorem index_at : ∀ (l r : List UInt8), ¬ 47 ∈ l → Lib.indexByte (l ++ 47 :: r) 47 = l.length
  | [], r, _ => by simp [Lib.indexByte]
  | b :: l, r, h => by
    have h1 : ¬ b = 47 := fun e => h (by rw [e]; exact List.mem_cons_self)
    have h2 := index_at l r (fun e => h (List.mem_cons_of_mem _ e))
    have h3 : ¬ ((l.length : Int) = -1) := by omega
    simp [Lib.indexByte, h1, h2, h3]
theorem Index_slash (s : ByteArray) (t : Int) (w : World) (ht : Lib.indexByte s.data.toList 47 = t) :
    Calls Tryz.prog 204 #[.string s, .string ⟨#[47]⟩] w fun e w' => e = .returned (.int .i64 t) ∧ w = w' := by
  have IB := Tryz.stringslite_IndexByte s 47 w
  rw [show (47 : Int).toNat.toUInt8 = 47 by decide, ht] at IB
  cases hq : ([47] == s.toList) with
  | true =>
    have h0 : t = 0 := by
      have e := beq_iff_eq.mp hq
      rw [← ht, ← Lib.toList_data, ← e]
      rfl
    subst h0
    clear IB ht
    go_enter Tryz.func204, Tryz.ntmps204
    go_wp2
    go_ret
    exact ⟨rfl, rfl⟩
  | false =>
    go_enter Tryz.func204, Tryz.ntmps204
    go_wp2_with fail
    refine IB.mono ?_
    rintro e w' ⟨rfl, rfl⟩
    go_wp2
    go_ret
    exact ⟨rfl, rfl⟩
theorem cutL_no (s : ByteArray) (w : World) (h : ¬ 47 ∈ s.data.toList) :
    Calls Tryz.prog 173 #[.string s, .string ⟨#[47]⟩] w fun e w' => e = .returned (.tuple #[.string s, .string ⟨#[]⟩, .bool false]) ∧ Below w.heap.size w w' := by
  have IX := Index_slash s (-1) w (index_no _ h)
  go_enter Tryz.func173, Tryz.ntmps173
  go_wp2_with fail
  refine IX.mono ?_
  rintro e w' ⟨rfl, rfl⟩
  go_wp2
  exact bodyPost_ret (v := .tuple #[.string s, .string ⟨#[]⟩, .bool false]) (by simp [results, Tryz.results173, go_sem]) rfl ⟨rfl, Below.refl _ _⟩
theorem ba_mid (a b : ByteArray) : (a ++ ⟨#[47]⟩ ++ b).data.toList = a.data.toList ++ 47 :: b.data.toList := by
  simp [ByteArray.data_append]
theorem cutL_at (s a b : ByteArray) (w : World) (h : s = a ++ ⟨#[47]⟩ ++ b) (ha : ¬ 47 ∈ a.data.toList) (hs : s.size ≤ 4611686018427387904) :
    Calls Tryz.prog 173 #[.string s, .string ⟨#[47]⟩] w fun e w' => e = .returned (.tuple #[.string a, .string b, .bool true]) ∧ Below w.heap.size w w' := by
  have IX := Index_slash s a.size w (by rw [h, ba_mid, index_at _ _ ha]; rfl)
  have ed : s.data.toList = a.data.toList ++ 47 :: b.data.toList := by rw [h, ba_mid]
  have e1 : s.extract 0 a.size = a := by
    apply ba_ext
    rw [ByteArray.data_extract, Array.toList_extract, ed, List.extract_eq_take_drop]
    show List.take (a.data.toList.length - 0) (List.drop 0 _) = _
    simp
  have e2 : s.extract (a.size + 1) (a.size + 1 + b.size) = b := by
    apply ba_ext
    rw [ByteArray.data_extract, Array.toList_extract, ed, List.extract_eq_take_drop]
    show List.take (a.data.toList.length + 1 + b.data.toList.length - (a.data.toList.length + 1)) (List.drop (a.data.toList.length + 1) _) = _
    rw [List.drop_append, List.drop_eq_nil_of_le (by omega), show a.data.toList.length + 1 - a.data.toList.length = 1 by omega, show a.data.toList.length + 1 + b.data.toList.length - (a.data.toList.length + 1) = b.data.toList.length by omega]
    show List.take b.data.toList.length b.data.toList = _
    rw [List.take_length]
  have hz : s.size = a.size + 1 + b.size := by rw [h, ByteArray.size_append, ByteArray.size_append]; rfl
  clear h ed
  go_enter Tryz.func173, Tryz.ntmps173
  go_wp2_with fail
  refine IX.mono ?_
  rintro e w' ⟨rfl, rfl⟩
  go_upto_region 3 with fail
  go_quiet (fail)
  go_wp2
  exact bodyPost_ret (v := .tuple #[.string a, .string b, .bool true]) (by simp [results, Tryz.results173, go_sem]) rfl ⟨rfl, below_drewN (Below.refl _ _) _⟩
theorem cut_no (s : ByteArray) (w : World) (h : ¬ 47 ∈ s.data.toList) :
    Calls Tryz.prog 138 #[.string s, .string ⟨#[47]⟩] w fun e w' => e = .returned (.tuple #[.string s, .string ⟨#[]⟩, .bool false]) ∧ Below w.heap.size w w' := by
  have IX := cutL_no s w h
  clear h
  go_enter Tryz.func138, Tryz.ntmps138
  go_wp2_with fail
  refine IX.mono ?_
  rintro e w' ⟨rfl, hb⟩
  have HB := Lib.hid hb
  clear hb
  go_wp2
  exact bodyPost_ret (v := .tuple #[.string s, .string ⟨#[]⟩, .bool false]) (by simp [results, Tryz.results138, go_sem]) rfl ⟨rfl, HB.out⟩
theorem cut_at (s a b : ByteArray) (w : World) (h : s = a ++ ⟨#[47]⟩ ++ b) (ha : ¬ 47 ∈ a.data.toList) (hs : s.size ≤ 4611686018427387904) :
    Calls Tryz.prog 138 #[.string s, .string ⟨#[47]⟩] w fun e w' => e = .returned (.tuple #[.string a, .string b, .bool true]) ∧ Below w.heap.size w w' := by
  have IX := cutL_at s a b w h ha hs
  clear h ha hs
  go_enter Tryz.func138, Tryz.ntmps138
  go_wp2_with fail
  refine IX.mono ?_
  rintro e w' ⟨rfl, hb⟩
  have HB := Lib.hid hb
  clear hb
  go_wp2
  exact bodyPost_ret (v := .tuple #[.string a, .string b, .bool true]) (by simp [results, Tryz.results138, go_sem]) rfl ⟨rfl, HB.out⟩
end Go.Proofs.YtkhebidmfjbhaaaGreatDoor
