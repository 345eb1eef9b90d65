/-
  What the reference's Quotient returns for short integers.
  The arithmetic of a written division: its digits, the rows that it reverses.
  Rows of the reference's Quotient: where they lie, and what stays of them.
-/
import Derived.Test.YtkhebidmfjbhaaaGreatDoorZ35
import Derived.Test.YtkhebidmfjbhaaaGreatDoorZ05
namespace Go.Proofs.YtkhebidmfjbhaaaGreatDoor
open Go.RowKit

def GivesQQ (s t : ByteArray) (w : World) (e : Ending) (w' : World) : Prop := e = .returned (.tuple #[.string s, .string t]) ∧ Below w.heap.size w w'
theorem fl_any {x y q r : Int} (h : r + y * q = x) (h0 : 0 < y ∧ 0 ≤ r ∧ r < y ∨ y < 0 ∧ y < r ∧ r ≤ 0) : q = x.fdiv y ∧ r = x.fmod y := by
  rcases h0 with ⟨a, b, c⟩ | ⟨a, b, c⟩
  · exact fl_pos a h b c
  · exact fl_neg a h b c
/-- The correction of a truncated quotient. -/
theorem trunc_fix {x y : Int} (hy : y ≠ 0) : (x.tmod y = 0 → x.tdiv y = x.fdiv y ∧ x.tmod y = x.fmod y) ∧
    (x.tmod y ≠ 0 → (decide (x.tmod y < 0) = decide (y < 0)) → x.tdiv y = x.fdiv y ∧ x.tmod y = x.fmod y) ∧
    (x.tmod y ≠ 0 → ¬ (decide (x.tmod y < 0) = decide (y < 0)) → x.tdiv y - 1 = x.fdiv y ∧ x.tmod y + y = x.fmod y) := by
  have h := Int.tmod_add_mul_tdiv x y
  have h1 : (x.tmod y).natAbs < y.natAbs := by rw [Int.natAbs_tmod]; exact Nat.mod_lt _ (by omega)
  generalize x.tmod y = r at *
  generalize x.tdiv y = q at *
  refine ⟨fun h2 => fl_any h (by omega), fun h2 h3 => fl_any h ?_, fun h2 h3 => fl_any (by rw [Int.mul_sub]; omega) ?_⟩
  · by_cases a : r < 0 <;> by_cases b : y < 0 <;> simp [a, b] at h3 <;> omega
  · by_cases a : r < 0 <;> by_cases b : y < 0 <;> simp [a, b] at h3 <;> omega
theorem ret_qq {a b s t : ByteArray} (h1 : a = s) (h2 : b = t) : (Ending.returned (.tuple #[.string a, .string b])) = .returned (.tuple #[.string s, .string t]) := by rw [h1, h2]
set_option maxHeartbeats 2000000 in
set_option maxRecDepth 100000 in
theorem quo_zero (A B S T : ByteArray) (x y q : Int) (w : World) (sx : ∀ W, Calls Tryz.prog 162 #[.string A] W fun e w' => e = .returned (.tuple #[.int .i64 x, .bool true]) ∧ W = w') (sy : ∀ W, Calls Tryz.prog 162 #[.string B] W fun e w' => e = .returned (.tuple #[.int .i64 y, .bool true]) ∧ W = w')
    (nq : ∀ W, Calls Tryz.prog 92 #[.int .i64 q] W (GivesY S W)) (nr : ∀ W, Calls Tryz.prog 92 #[.int .i64 0] W (GivesY T W))
    (hz : (y == 0) = false) (hq : x.tdiv y = q) (hm : x.tmod y = 0) (_x1 : -1000000000 < x) (_x2 : x < 1000000000) (_y1 : -1000000000 < y) (_y2 : y < 1000000000) (q1 : -1000000000 < q) (q2 : q < 1000000000) :
    Calls Tryz.prog 153 #[.string A, .string B] w (GivesQQ S T w) := by
  have SX := Lib.hid sx
  have SY := Lib.hid sy
  have NQ := Lib.hid nq
  have NR := Lib.hid nr
  clear sx sy nq nr
  have hy0 : ¬ y = 0 := by rw [beq_eq_false_iff_ne] at hz; exact hz
  have hwq : IntKind.i64.wrap q = q := IntWalk.i64_in _ (by omega)
  go_enter Tryz.func153, Tryz.ntmps153
  go_wp2_with fail
  (with_reducible refine Calls.mono (SX.out w) ?_)
  rintro e w' ⟨rfl, rfl⟩
  go_wp2_with fail
  (with_reducible refine Calls.mono (SY.out w) ?_)
  rintro e w' ⟨rfl, rfl⟩
  go_wp2_with fail
  go_quiet (fail)
  go_wp2_with fail
  (with_reducible refine Calls.mono (NQ.out _) ?_)
  rintro e w1 ⟨rfl, hb1⟩
  have B1 := Lib.hid ((below_drewN (Below.refl w.heap.size w) _).trans hb1)
  clear hb1
  go_wp2_with fail
  (with_reducible refine Calls.mono (NR.out _) ?_)
  rintro e w2 ⟨rfl, hb2⟩
  have B2 := Lib.hid (B1.out.trans (hb2.mono B1.out.size))
  clear hb2
  go_wp2
  go_ret2
  exact ⟨rfl, B2.out⟩
set_option maxHeartbeats 2000000 in
set_option maxRecDepth 100000 in
theorem quo_nn (A B S T : ByteArray) (x y q r : Int) (w : World) (sx : ∀ W, Calls Tryz.prog 162 #[.string A] W fun e w' => e = .returned (.tuple #[.int .i64 x, .bool true]) ∧ W = w') (sy : ∀ W, Calls Tryz.prog 162 #[.string B] W fun e w' => e = .returned (.tuple #[.int .i64 y, .bool true]) ∧ W = w')
    (nq : ∀ W, Calls Tryz.prog 92 #[.int .i64 q] W (GivesY S W)) (nr : ∀ W, Calls Tryz.prog 92 #[.int .i64 r] W (GivesY T W))
    (hz : (y == 0) = false) (hq : x.tdiv y = q) (hm : x.tmod y = r) (_x1 : -1000000000 < x) (_x2 : x < 1000000000) (_y1 : -1000000000 < y) (_y2 : y < 1000000000) (q1 : -1000000000 < q) (q2 : q < 1000000000) (_r1 : -1000000000 < r) (_r2 : r < 1000000000) (hr : (r == 0) = false) (a1 : decide (r < 0) = true) (a2 : decide (y < 0) = true) :
    Calls Tryz.prog 153 #[.string A, .string B] w (GivesQQ S T w) := by
  have SX := Lib.hid sx
  have SY := Lib.hid sy
  have NQ := Lib.hid nq
  have NR := Lib.hid nr
  clear sx sy nq nr
  have hy0 : ¬ y = 0 := by rw [beq_eq_false_iff_ne] at hz; exact hz
  have hwq : IntKind.i64.wrap q = q := IntWalk.i64_in _ (by omega)
  have hrn : (r != 0) = true := by unfold bne; rw [hr]; rfl
  have hr0 : ¬ r = 0 := by rw [beq_eq_false_iff_ne] at hr; exact hr
  go_enter Tryz.func153, Tryz.ntmps153
  go_wp2_with fail
  (with_reducible refine Calls.mono (SX.out w) ?_)
  rintro e w' ⟨rfl, rfl⟩
  go_wp2_with fail
  (with_reducible refine Calls.mono (SY.out w) ?_)
  rintro e w' ⟨rfl, rfl⟩
  go_wp2_with fail
  go_quiet (fail)
  go_wp2_with fail
  (with_reducible refine Calls.mono (NQ.out _) ?_)
  rintro e w1 ⟨rfl, hb1⟩
  have B1 := Lib.hid ((below_drewN (Below.refl w.heap.size w) _).trans hb1)
  clear hb1
  go_wp2_with fail
  (with_reducible refine Calls.mono (NR.out _) ?_)
  rintro e w2 ⟨rfl, hb2⟩
  have B2 := Lib.hid (B1.out.trans (hb2.mono B1.out.size))
  clear hb2
  go_wp2
  go_ret2
  exact ⟨rfl, B2.out⟩
set_option maxHeartbeats 2000000 in
set_option maxRecDepth 100000 in
theorem quo_pp (A B S T : ByteArray) (x y q r : Int) (w : World) (sx : ∀ W, Calls Tryz.prog 162 #[.string A] W fun e w' => e = .returned (.tuple #[.int .i64 x, .bool true]) ∧ W = w') (sy : ∀ W, Calls Tryz.prog 162 #[.string B] W fun e w' => e = .returned (.tuple #[.int .i64 y, .bool true]) ∧ W = w')
    (nq : ∀ W, Calls Tryz.prog 92 #[.int .i64 q] W (GivesY S W)) (nr : ∀ W, Calls Tryz.prog 92 #[.int .i64 r] W (GivesY T W))
    (hz : (y == 0) = false) (hq : x.tdiv y = q) (hm : x.tmod y = r) (_x1 : -1000000000 < x) (_x2 : x < 1000000000) (_y1 : -1000000000 < y) (_y2 : y < 1000000000) (q1 : -1000000000 < q) (q2 : q < 1000000000) (_r1 : -1000000000 < r) (_r2 : r < 1000000000) (hr : (r == 0) = false) (a1 : decide (r < 0) = false) (a2 : decide (y < 0) = false) :
    Calls Tryz.prog 153 #[.string A, .string B] w (GivesQQ S T w) := by
  have SX := Lib.hid sx
  have SY := Lib.hid sy
  have NQ := Lib.hid nq
  have NR := Lib.hid nr
  clear sx sy nq nr
  have hy0 : ¬ y = 0 := by rw [beq_eq_false_iff_ne] at hz; exact hz
  have hwq : IntKind.i64.wrap q = q := IntWalk.i64_in _ (by omega)
  have hrn : (r != 0) = true := by unfold bne; rw [hr]; rfl
  have hr0 : ¬ r = 0 := by rw [beq_eq_false_iff_ne] at hr; exact hr
  go_enter Tryz.func153, Tryz.ntmps153
  go_wp2_with fail
  (with_reducible refine Calls.mono (SX.out w) ?_)
  rintro e w' ⟨rfl, rfl⟩
  go_wp2_with fail
  (with_reducible refine Calls.mono (SY.out w) ?_)
  rintro e w' ⟨rfl, rfl⟩
  go_wp2_with fail
  go_quiet (fail)
  go_wp2_with fail
  (with_reducible refine Calls.mono (NQ.out _) ?_)
  rintro e w1 ⟨rfl, hb1⟩
  have B1 := Lib.hid ((below_drewN (Below.refl w.heap.size w) _).trans hb1)
  clear hb1
  go_wp2_with fail
  (with_reducible refine Calls.mono (NR.out _) ?_)
  rintro e w2 ⟨rfl, hb2⟩
  have B2 := Lib.hid (B1.out.trans (hb2.mono B1.out.size))
  clear hb2
  go_wp2
  go_ret2
  exact ⟨rfl, B2.out⟩
set_option maxHeartbeats 2000000 in
set_option maxRecDepth 100000 in
theorem quo_np (A B S T : ByteArray) (x y q r : Int) (w : World) (sx : ∀ W, Calls Tryz.prog 162 #[.string A] W fun e w' => e = .returned (.tuple #[.int .i64 x, .bool true]) ∧ W = w') (sy : ∀ W, Calls Tryz.prog 162 #[.string B] W fun e w' => e = .returned (.tuple #[.int .i64 y, .bool true]) ∧ W = w')
    (nq : ∀ W, Calls Tryz.prog 92 #[.int .i64 (q - 1)] W (GivesY S W)) (nr : ∀ W, Calls Tryz.prog 92 #[.int .i64 (r + y)] W (GivesY T W))
    (hz : (y == 0) = false) (hq : x.tdiv y = q) (hm : x.tmod y = r) (_x1 : -1000000000 < x) (_x2 : x < 1000000000) (_y1 : -1000000000 < y) (_y2 : y < 1000000000) (q1 : -1000000000 < q) (q2 : q < 1000000000) (r1 : -1000000000 < r) (r2 : r < 1000000000) (hr : (r == 0) = false) (a1 : decide (r < 0) = true) (a2 : decide (y < 0) = false) :
    Calls Tryz.prog 153 #[.string A, .string B] w (GivesQQ S T w) := by
  have SX := Lib.hid sx
  have SY := Lib.hid sy
  have NQ := Lib.hid nq
  have NR := Lib.hid nr
  clear sx sy nq nr
  have hy0 : ¬ y = 0 := by rw [beq_eq_false_iff_ne] at hz; exact hz
  have hwq : IntKind.i64.wrap q = q := IntWalk.i64_in _ (by omega)
  have hrn : (r != 0) = true := by unfold bne; rw [hr]; rfl
  have hr0 : ¬ r = 0 := by rw [beq_eq_false_iff_ne] at hr; exact hr
  go_enter Tryz.func153, Tryz.ntmps153
  go_wp2_with fail
  (with_reducible refine Calls.mono (SX.out w) ?_)
  rintro e w' ⟨rfl, rfl⟩
  go_wp2_with fail
  (with_reducible refine Calls.mono (SY.out w) ?_)
  rintro e w' ⟨rfl, rfl⟩
  go_wp2_with fail
  go_quiet (fail)
  go_wp2_with fail
  (with_reducible refine Calls.mono (NQ.out _) ?_)
  rintro e w1 ⟨rfl, hb1⟩
  have B1 := Lib.hid ((below_drewN (Below.refl w.heap.size w) _).trans hb1)
  clear hb1
  go_wp2_with fail
  (with_reducible refine Calls.mono (NR.out _) ?_)
  rintro e w2 ⟨rfl, hb2⟩
  have B2 := Lib.hid (B1.out.trans (hb2.mono B1.out.size))
  clear hb2
  go_wp2
  go_ret2
  exact ⟨rfl, B2.out⟩
set_option maxHeartbeats 2000000 in
set_option maxRecDepth 100000 in
theorem quo_pn (A B S T : ByteArray) (x y q r : Int) (w : World) (sx : ∀ W, Calls Tryz.prog 162 #[.string A] W fun e w' => e = .returned (.tuple #[.int .i64 x, .bool true]) ∧ W = w') (sy : ∀ W, Calls Tryz.prog 162 #[.string B] W fun e w' => e = .returned (.tuple #[.int .i64 y, .bool true]) ∧ W = w')
    (nq : ∀ W, Calls Tryz.prog 92 #[.int .i64 (q - 1)] W (GivesY S W)) (nr : ∀ W, Calls Tryz.prog 92 #[.int .i64 (r + y)] W (GivesY T W))
    (hz : (y == 0) = false) (hq : x.tdiv y = q) (hm : x.tmod y = r) (_x1 : -1000000000 < x) (_x2 : x < 1000000000) (_y1 : -1000000000 < y) (_y2 : y < 1000000000) (q1 : -1000000000 < q) (q2 : q < 1000000000) (r1 : -1000000000 < r) (r2 : r < 1000000000) (hr : (r == 0) = false) (a1 : decide (r < 0) = false) (a2 : decide (y < 0) = true) :
    Calls Tryz.prog 153 #[.string A, .string B] w (GivesQQ S T w) := by
  have SX := Lib.hid sx
  have SY := Lib.hid sy
  have NQ := Lib.hid nq
  have NR := Lib.hid nr
  clear sx sy nq nr
  have hy0 : ¬ y = 0 := by rw [beq_eq_false_iff_ne] at hz; exact hz
  have hwq : IntKind.i64.wrap q = q := IntWalk.i64_in _ (by omega)
  have hrn : (r != 0) = true := by unfold bne; rw [hr]; rfl
  have hr0 : ¬ r = 0 := by rw [beq_eq_false_iff_ne] at hr; exact hr
  go_enter Tryz.func153, Tryz.ntmps153
  go_wp2_with fail
  (with_reducible refine Calls.mono (SX.out w) ?_)
  rintro e w' ⟨rfl, rfl⟩
  go_wp2_with fail
  (with_reducible refine Calls.mono (SY.out w) ?_)
  rintro e w' ⟨rfl, rfl⟩
  go_wp2_with fail
  go_quiet (fail)
  go_wp2_with fail
  (with_reducible refine Calls.mono (NQ.out _) ?_)
  rintro e w1 ⟨rfl, hb1⟩
  have B1 := Lib.hid ((below_drewN (Below.refl w.heap.size w) _).trans hb1)
  clear hb1
  go_wp2_with fail
  (with_reducible refine Calls.mono (NR.out _) ?_)
  rintro e w2 ⟨rfl, hb2⟩
  have B2 := Lib.hid (B1.out.trans (hb2.mono B1.out.size))
  clear hb2
  go_wp2
  go_ret2
  exact ⟨rfl, B2.out⟩
theorem rquo_short (x y : Int) (w : World) (h1 : dn x ≤ 9) (h2 : dn y ≤ 9) (h0 : y ≠ 0) :
    Calls Tryz.prog 153 #[.string (tx x), .string (tx y)] w (GivesQQ (tx (x.fdiv y)) (tx (x.fmod y)) w) := by
  obtain ⟨e1, e2⟩ := sv_bd h1
  obtain ⟨e3, e4⟩ := sv_bd h2
  have hz : (y == 0) = false := by rw [beq_eq_false_iff_ne]; exact h0
  obtain ⟨f1, f2, f3⟩ := trunc_fix (x := x) h0
  have hrb : (x.tmod y).natAbs < y.natAbs := by rw [Int.natAbs_tmod]; exact Nat.mod_lt _ (by omega)
  have hqb : (x.tdiv y).natAbs ≤ x.natAbs := by rw [Int.natAbs_tdiv]; exact Nat.div_le_self _ _
  have sx := fun W => rshort_yes x W h1
  have sy := fun W => rshort_yes y W h2
  obtain ⟨q, hq⟩ : ∃ q, x.tdiv y = q := ⟨_, rfl⟩
  obtain ⟨r, hr⟩ : ∃ r, x.tmod y = r := ⟨_, rfl⟩
  rw [hq, hr] at f1 f2 f3
  rw [hr] at hrb
  rw [hq] at hqb
  obtain ⟨g1, g2⟩ : -1000000000 < q ∧ q < 1000000000 := by omega
  obtain ⟨g3, g4⟩ : -1000000000 < r ∧ r < 1000000000 := by omega
  by_cases hr0 : r = 0
  · obtain ⟨t1, t2⟩ := f1 hr0
    rw [← t1, ← t2, hr0]
    rw [hr0] at hr
    exact quo_zero _ _ _ _ x y q w sx sy (fun W => rnumber_any q W (by omega) (by omega)) (fun W => rnumber_any 0 W (by omega) (by omega)) hz hq hr e1 e2 e3 e4 g1 g2
  · have hr1 : (r == 0) = false := by rw [beq_eq_false_iff_ne]; exact hr0
    by_cases hs : decide (r < 0) = decide (y < 0)
    · obtain ⟨t1, t2⟩ := f2 hr0 hs
      rw [← t1, ← t2]
      cases hy : decide (y < 0)
      · rw [hy] at hs
        exact quo_pp _ _ _ _ x y q r w sx sy (fun W => rnumber_any q W (by omega) (by omega)) (fun W => rnumber_any r W (by omega) (by omega)) hz hq hr e1 e2 e3 e4 g1 g2 g3 g4 hr1 hs hy
      · rw [hy] at hs
        exact quo_nn _ _ _ _ x y q r w sx sy (fun W => rnumber_any q W (by omega) (by omega)) (fun W => rnumber_any r W (by omega) (by omega)) hz hq hr e1 e2 e3 e4 g1 g2 g3 g4 hr1 hs hy
    · obtain ⟨t1, t2⟩ := f3 hr0 hs
      rw [← t1, ← t2]
      cases hy : decide (y < 0)
      · rw [hy] at hs
        exact quo_np _ _ _ _ x y q r w sx sy (fun W => rnumber_any (q - 1) W (by omega) (by omega)) (fun W => rnumber_any (r + y) W (by omega) (by omega)) hz hq hr e1 e2 e3 e4 g1 g2 g3 g4 hr1 (by simpa using hs) hy
      · rw [hy] at hs
        exact quo_pn _ _ _ _ x y q r w sx sy (fun W => rnumber_any (q - 1) W (by omega) (by omega)) (fun W => rnumber_any (r + y) W (by omega) (by omega)) hz hq hr e1 e2 e3 e4 g1 g2 g3 g4 hr1 (by simpa using hs) hy
end Go.Proofs.YtkhebidmfjbhaaaGreatDoor
namespace Go.Proofs.YtkhebidmfjbhaaaGreatDoor
open Go.RowKit

theorem quo_lift (X : Int) {Y : Int} (hY : 0 < Y) (i : Nat) : X / Y / Ten.bp i = X / Ten.bp i / Y := by
  rw [Int.ediv_ediv_of_nonneg (Int.le_of_lt hY), Int.mul_comm, ← Int.ediv_ediv_of_nonneg (Int.le_of_lt (Ten.bp_pos i))]
/-- One more digit of the quotient. -/
theorem quo_step {X Y R : Int} {i : Nat} (hY : 0 < Y) (hR : R = X / Ten.bp (i + 1) % Y) :
    0 ≤ R ∧ R < Y ∧ (Ten.lz X i + 10 * R) / Y = Ten.lz (X / Y) i ∧ (Ten.lz X i + 10 * R) % Y = X / Ten.bp i % Y := by
  have h0 : 0 ≤ R := by rw [hR]; exact Int.emod_nonneg _ (by omega)
  have h1 : R < Y := by rw [hR]; exact Int.emod_lt_of_pos _ hY
  have hd := Ten.lz_bd X i
  have e1 := Ten.div_split X i
  have e2 := Int.mul_ediv_add_emod (X / Ten.bp (i + 1)) Y
  have e4 : X / Ten.bp i = (Ten.lz X i + 10 * R) + Y * (10 * (X / Ten.bp (i + 1) / Y)) := by
    rw [← hR] at e2
    have e3 : Y * (10 * (X / Ten.bp (i + 1) / Y)) = 10 * (Y * (X / Ten.bp (i + 1) / Y)) := by ac_rfl
    omega
  have e5 : Ten.lz (X / Y) i = X / Ten.bp i / Y % 10 := by unfold Ten.lz; rw [quo_lift X hY]
  refine ⟨h0, h1, ?_, ?_⟩
  · rw [e5, e4, Int.add_mul_ediv_left _ _ (by omega)]
    have l0 : 0 ≤ (Ten.lz X i + 10 * R) / Y := Int.ediv_nonneg (by omega) (by omega)
    have l1 : (Ten.lz X i + 10 * R) / Y < 10 := Int.ediv_lt_of_lt_mul hY (by omega)
    omega
  · rw [e4, Int.add_mul_emod_self_left]
theorem quo_last {R Y k : Int} (hY : 0 < Y) (h0 : 0 ≤ R - k * Y) (h1 : R - k * Y < Y) : k = R / Y ∧ R - k * Y = R % Y := by
  have h : R = (R - k * Y) + Y * k := by rw [Int.mul_comm Y k]; omega
  constructor
  · rw [h, Int.add_mul_ediv_left _ _ (by omega), Int.ediv_eq_zero_of_lt (by omega) (by omega)]
    omega
  · conv => rhs; rw [h, Int.add_mul_emod_self_left, Int.emod_eq_of_lt h0 h1]
/-- The digits of d + 10 R. -/
theorem lz_cons {d R : Int} (hd : 0 ≤ d ∧ d < 10) (j : Nat) : Ten.lz (d + 10 * R) (j + 1) = Ten.lz R j := by
  have e : Ten.lz (d + 10 * R) (j + 1) = Ten.lz ((d + 10 * R) / Ten.bp 1) j := by rw [Ten.lz_shift, Nat.add_comm]
  rw [e, Ten.bp_one, show (d + 10 * R) / 10 = R by omega]
theorem vals_cons {d R : Int} (hd : 0 ≤ d ∧ d < 10) (n : Nat) : vals (dl (d + 10 * R) (n + 1)) = [.int .i64 d] ++ vals (dl R n) := by
  unfold dl vals
  rw [List.range_succ_eq_map]
  simp only [List.map_cons, List.map_map, List.cons_append, List.nil_append, List.cons.injEq]
  refine ⟨?_, ?_⟩
  · congr 1
    unfold Ten.lz
    rw [Ten.div_bp_zero]
    omega
  · apply List.map_congr_left
    intro j _
    show Value.int .i64 ((Ten.lz (d + 10 * R) (j + 1)).toNat : Int) = _
    rw [lz_cons hd]
    rfl
theorem lt_cons {d R : Int} {n : Nat} (hd : 0 ≤ d ∧ d < 10) (h : R < Ten.bp n) : d + 10 * R < Ten.bp (n + 1) := by rw [Ten.bp_succ]; omega
/-- The first m digits of a number of S digits, the highest first. -/
def hiD (Q : Int) (S m : Nat) : List Nat := (List.range m).map fun t => (Ten.lz Q (S - 1 - t)).toNat
theorem hiD_succ (Q : Int) (S m : Nat) : vals (hiD Q S (m + 1)) = vals (hiD Q S m) ++ [.int .i64 (Ten.lz Q (S - 1 - m))] := by
  unfold hiD
  rw [List.range_succ, List.map_append]
  show vals (_ ++ [_]) = _
  rw [vals_snoc]
  have e : ((Ten.lz Q (S - 1 - m)).toNat : Int) = Ten.lz Q (S - 1 - m) := by have := Ten.lz_bd Q (S - 1 - m); omega
  show _ ++ [Value.int .i64 ((Ten.lz Q (S - 1 - m)).toNat : Int)] = _
  rw [e]
theorem hiD_get (Q : Int) (S m j : Nat) (h : j < m) : (vals (hiD Q S m))[j]? = some (.int .i64 (Ten.lz Q (S - 1 - j))) := by
  unfold hiD vals
  simp [h]
  have := Ten.lz_bd Q (S - 1 - j)
  congr 1
  omega
/-- The row when i places at each end have been exchanged. -/
def mid (Q : Int) (S i : Nat) : Nat → Int := fun j => if j < i ∨ S - 1 - j < i then Ten.lz Q j else Ten.lz Q (S - 1 - j)
theorem mid_low {Q : Int} {S i : Nat} (h : i < S / 2) : mid Q S i i = Ten.lz Q (S - 1 - i) ∧ mid Q S i (S - 1 - i) = Ten.lz Q i := by
  unfold mid
  rw [if_neg (by omega), if_neg (by omega), show S - 1 - (S - 1 - i) = i by omega]
  exact ⟨rfl, rfl⟩
theorem mid_step {Q : Int} {S i : Nat} (h : i < S / 2) (j : Nat) (hj : j < S) : upd (upd (mid Q S i) i (Ten.lz Q i)) (S - 1 - i) (Ten.lz Q (S - 1 - i)) j = mid Q S (i + 1) j := by
  by_cases h1 : j = S - 1 - i
  · subst h1
    rw [upd_same]
    unfold mid
    rw [if_pos (by omega)]
  · rw [upd_other _ _ h1]
    by_cases h2 : j = i
    · subst h2
      rw [upd_same]
      unfold mid
      rw [if_pos (by omega)]
    · rw [upd_other _ _ h2]
      unfold mid
      by_cases h3 : j < i ∨ S - 1 - j < i
      · rw [if_pos h3, if_pos (by omega)]
      · rw [if_neg h3, if_neg (by omega)]
theorem mid_end {Q : Int} {S i j : Nat} (h : ¬ i < S / 2) (hj : j < S) : mid Q S i j = Ten.lz Q j := by
  unfold mid
  by_cases h3 : j < i ∨ S - 1 - j < i
  · rw [if_pos h3]
  · rw [if_neg h3, show S - 1 - j = j by omega]
theorem quo_len {X Y : Int} {S : Nat} (hX : 0 ≤ X) (hY : 0 < Y) (h : X / Ten.bp S < Y) : X / Y < Ten.bp S := by
  have e := quo_lift X hY S
  have h0 : 0 ≤ X / Ten.bp S := Int.ediv_nonneg hX (Int.le_of_lt (Ten.bp_pos S))
  rw [Int.ediv_eq_zero_of_lt h0 h] at e
  have h1 := Int.mul_ediv_add_emod (X / Y) (Ten.bp S)
  have h2 := Ten.mod_bd (X / Y) S
  rw [e] at h1
  omega
theorem head_lt {X Y : Int} {n k S : Nat} (hXn : X < Ten.bp n) (hk : Ten.bp (k - 1) ≤ Y) (hS : n ≤ S + (k - 1)) : X / Ten.bp S < Y := by
  refine Int.lt_of_lt_of_le ?_ hk
  refine Int.ediv_lt_of_lt_mul (Ten.bp_pos S) ?_
  rw [← Ten.bp_add]
  exact Int.lt_of_lt_of_le hXn (Ten.bp_mono (by omega))
/-- Signs: the truncated quotient and remainder by absolute values. -/
theorem quo_signs (x y : Int) : x.tdiv y = (if (decide (x < 0) != decide (y < 0)) = true then -((x.natAbs : Int) / y.natAbs) else (x.natAbs : Int) / y.natAbs) ∧ x.tmod y = (if x < 0 then -((x.natAbs : Int) % y.natAbs) else (x.natAbs : Int) % y.natAbs) := by
  have key : ∀ a b : Int, 0 ≤ a → 0 ≤ b → a.tdiv b = a / b ∧ a.tmod b = a % b := fun a b ha _ => ⟨Int.tdiv_eq_ediv_of_nonneg ha, Int.tmod_eq_emod_of_nonneg ha⟩
  obtain ⟨k1, k2⟩ := key x.natAbs y.natAbs (by omega) (by omega)
  by_cases h1 : x < 0 <;> by_cases h2 : y < 0
  · rw [decide_eq_true h1, decide_eq_true h2, if_neg (by simp), if_pos h1, ← k1, ← k2, show (x.natAbs : Int) = -x by omega, show (y.natAbs : Int) = -y by omega, Int.neg_tdiv_neg, Int.neg_tmod, Int.tmod_neg]
    exact ⟨rfl, by omega⟩
  · rw [decide_eq_true h1, decide_eq_false h2, if_pos (by rfl), if_pos h1, ← k1, ← k2, show (x.natAbs : Int) = -x by omega, show (y.natAbs : Int) = y by omega, Int.neg_tdiv, Int.neg_tmod]
    exact ⟨by omega, by omega⟩
  · rw [decide_eq_false h1, decide_eq_true h2, if_pos (by rfl), if_neg h1, ← k1, ← k2, show (x.natAbs : Int) = x by omega, show (y.natAbs : Int) = -y by omega, Int.tdiv_neg, Int.tmod_neg]
    exact ⟨by omega, rfl⟩
  · rw [decide_eq_false h1, decide_eq_false h2, if_neg (by simp), if_neg h1, ← k1, ← k2, show (x.natAbs : Int) = x by omega, show (y.natAbs : Int) = y by omega]
    exact ⟨rfl, rfl⟩
end Go.Proofs.YtkhebidmfjbhaaaGreatDoor
namespace Go.Proofs.YtkhebidmfjbhaaaGreatDoor
open Go.RowKit
open Go

theorem RowP.shift {w : World} {g o n S : Nat} {z : Int} (h : RowP w g o n z) (_hS : S ≤ n) : RowP w g (o + S) (n - S) (z / Ten.bp S) := ⟨h.1, fun j hj => by
  rw [Ten.lz_shift, Nat.add_assoc]
  exact h.2 (S + j) (by omega)⟩
theorem RowP.set {w : World} {g o n : Nat} {z : Int} (h : RowP w g o n z) (b i : Nat) (u : Value) (hb : g ≠ b) : RowP (w.setCell ⟨b, i, none⟩ u) g o n z :=
  ⟨by rw [World.size_setCell]; exact h.1, fun j hj => by rw [World.cell?_setCell_other w _ _ _ (by intro e; injection e; omega)]; exact h.2 j hj⟩
theorem RowP.drewN {w : World} {g o n : Nat} {z : Int} (h : RowP w g o n z) (q : Nat) : RowP (w.drewN q) g o n z := h
theorem own_place {w : World} {B n : Nat} {v : Value} {x : Int} (h : w.ownsRow B 3 1 v n (vals (dl x n))) (hne : v ≠ .slice none 0 0) : ∃ g c, v = .slice (some ⟨g, 0, none⟩) n c ∧ n ≤ c ∧ B ≤ g ∧ g < w.heap.size ∧ RowP w g 0 n x := by
  rcases h.2 with ⟨hv, _⟩ | ⟨g, cap, cur, hv, hB, hg, hc, _⟩
  · exact absurd hv hne
  · subst hv
    have hlt := (Array.getElem?_eq_some_iff.1 hg).1
    refine ⟨g, cap, rfl, hc, hB, hlt, hlt, fun j hj => ?_⟩
    rw [Nat.zero_add, h.cellAt j (by omega)]
    unfold vals dl
    simp [hj]
    have := Ten.lz_bd x j
    congr 1
    omega
/-- A row of the call's own, cell by cell. -/
theorem own_cells {w w1 : World} {S : Nat} {Q : Int} {v : Value} (h : w1.ownsRow w.heap.size 3 1 v S (vals (hiD Q S S))) (hb : Below w.heap.size w w1) : ∃ a c, v = .slice a S c ∧ S ≤ c ∧ (0 < S → ∃ g, a = some ⟨g, 0, none⟩ ∧ v.ownBlock = some g ∧ RowI w w1 g S (mid Q S 0)) := by
  rcases h.2 with ⟨hv, h0⟩ | ⟨g, cap, cur, hv, hB, hg, hc, _⟩
  · exact ⟨none, 0, by rw [hv, h0], by omega, fun k => absurd k (by omega)⟩
  · subst hv
    refine ⟨_, cap, rfl, hc, fun _ => ⟨g, rfl, rfl, hb, hB, (Array.getElem?_eq_some_iff.1 hg).1, fun j hj => ?_, fun j hj => h.frozenAt j⟩⟩
    rw [h.cellAt j (by omega), hiD_get Q S S j hj]
    unfold mid
    rw [if_neg (by omega)]
/-- What holds at the head of the loop over the digits: c of them are to come, the remainder R stands in a row of its own. -/
structure QR (w wr : World) (X Y : Int) (S : Nat) (vq vr : Value) (z : Int) (c g o cc : Nat) (R : Int) : Prop where
  le : c ≤ S
  hz : z = (c : Int) - 1
  hR : R = X / Ten.bp c % Y
  vr : vr = .slice (some ⟨g, o, none⟩) (Ten.nl R) cc
  cap : Ten.nl R ≤ cc
  row : RowP wr g o (Ten.nl R) R
  own : wr.ownsRow w.heap.size 3 1 vq (S - c) (vals (hiD (X / Y) S (S - c)))
  apart : vq.ownBlock ≠ some g
  below : Below w.heap.size w wr
theorem elemI : Tryz.prog.elem 133 = 3 := by kernel_rfl
theorem undI : Tryz.prog.underlying 133 = some (.slice (Tryz.prog.elem 133)) := by kernel_rfl
theorem sizeI (w : World) : (Go.sizeOf 3).run Tryz.prog w = .ok 1 w := Tryz.sizeOf3 w
/-- x[S:]. -/
theorem slice_from (g o n c S : Nat) (hS : S ≤ n) (hn : n ≤ c) : ∃ p cx, (S < n → p = o + S) ∧ ∀ W, (Instr.slice 133 (.slice (some ⟨g, o, none⟩) n c) (some (.int .i64 (S : Int))) none none).run Tryz.prog W = .ok (.slice (some ⟨g, p, none⟩) (n - S) cx) W := by
  refine ⟨if S = c then o else o + S, c - S, fun h => by rw [if_neg (by omega)], fun W => ?_⟩
  rw [run_slice_l (ht := undI) (h0 := by omega) (h1 := by omega), elemI, sizeI]
  simp only [Result.andThen, sliced]
  by_cases h : S = c
  · subst h; simp
  · rw [if_neg (by simp; omega), if_neg h]
    simp [Addr.add]
theorem vals_one (x : Int) (n : Nat) : ∀ u ∈ vals (dl x n), u.oneCell' = true := by
  intro u hu
  unfold vals at hu
  obtain ⟨q, _, rfl⟩ := List.mem_map.1 hu
  rfl
theorem vals_len (x : Int) (n : Nat) : (vals (dl x n)).length = n * 1 := by unfold vals; rw [List.length_map, dl_len, Nat.mul_one]
theorem RowI.cong {w w1 : World} {g L : Nat} {f f' : Nat → Int} (h : RowI w w1 g L f) (e : ∀ j, j < L → f' j = f j) : RowI w w1 g L f' :=
  ⟨h.below, h.ge, h.lt, fun j hj => by rw [e j hj]; exact h.cells j hj, h.free⟩
theorem tx_zero_test (z : Int) : ((tx z).toList == [48]) = decide (z = 0) := by
  have h0 : (tx 0).toList = [48] := by rw [Lib.toList_data, tx_list]; simp [Lib.itoa, Lib.decDigits]
  by_cases h : z = 0
  · rw [h, h0, decide_eq_true rfl]; rfl
  · rw [decide_eq_false h, beq_eq_false_iff_ne]
    intro e
    rw [← h0, Lib.toList_data, Lib.toList_data] at e
    exact h (tx_inj.1 (ba_ext e))
theorem tx_one : tx 1 = ⟨#[49]⟩ := by unfold tx; rw [show Lib.itoa 1 = [49] by simp [Lib.itoa, Lib.decDigits]]
/-- The exchange of two cells of the row. -/
theorem swap_rel {w wr W : World} {gq S i t : Nat} {Q : Int} (hi : i < S / 2) (ht : t = S - 1 - i) (h : RowI w wr gq S (mid Q S i))
    (hW : ∃ a b c : Nat, W = ((((wr.drewN a).setCell ⟨gq, i, none⟩ (.int .i64 (Ten.lz Q i))).drewN b).setCell ⟨gq, t, none⟩ (.int .i64 (Ten.lz Q t))).drewN c) : RowI w W gq S (mid Q S (i + 1)) := by
  obtain ⟨a, b, c, rfl⟩ := hW
  subst ht
  exact ((((h.drewN a).set i (by omega) (Ten.lz Q i)).drewN b).set (S - 1 - i) (by omega) (Ten.lz Q (S - 1 - i))).drewN c |>.cong (fun j hj => (mid_step hi j hj).symm)
theorem swap_row {wr W : World} {g o n gq i t : Nat} {z u v : Int} (h : RowP wr g o n z) (hne : g ≠ gq)
    (hW : ∃ a b c : Nat, W = ((((wr.drewN a).setCell ⟨gq, i, none⟩ (.int .i64 u)).drewN b).setCell ⟨gq, t, none⟩ (.int .i64 v)).drewN c) : RowP W g o n z := by
  obtain ⟨a, b, c, rfl⟩ := hW
  exact ((((h.drewN a).set gq i _ hne).drewN b).set gq t _ hne).drewN c
theorem dnabs_le {x y : Int} (h : x.natAbs ≤ y.natAbs) : dn x ≤ dn y := by
  have := dn_mono (x := (x.natAbs : Int)) (y := (y.natAbs : Int)) (by omega) (by omega)
  rwa [dn_abs, dn_abs] at this
end Go.Proofs.YtkhebidmfjbhaaaGreatDoor
