/-
  An array of two texts at the door: what it is when it comes in, and that it reads the same.
  The rational numbers of Lean's core, by the steps of ratio's operations.
  The constructors of natural numbers, their limbs, and whether they are words.
  Of a number of one word, whether a number is a word or 0, and its limbs.
  What the functions of package whole on natural numbers return: sums, differences, comparisons.
  What signed returns: a natural number with a sign.
-/
import Derived.Test.YtkhebidmfjbhaaaGreatDoorZ02
import Derived.Test.YtkhebidmfjbhaaaGreatDoorZ01
import Derived.Deep.RegionWith
import Derived.Deep.RegionHeld
import Derived.Deep.OwnRows
import Derived.Laws.CopyOwn
import Derived.Laws.AppendOwnNone
import Derived.Lib.MinMax
import Derived.Deep.RegionHeld3
namespace Go.Proofs.YtkhebidmfjbhaaaGreatDoor
open Go.ChangeShapes Go.WideShapes Go.ChangeAt Go.RowKit
open Go.ChangeMaps (open_string shut_string)

theorem ckUnd2 : Tryz.prog.underlying 56 = some (.array 2 9) := by kernel_rfl
theorem ckCells2 : Tryz.prog.cellsOf 56 = 2 := by kernel_rfl
theorem ckCellsT : Tryz.prog.cellsOf 9 = 1 := by kernel_rfl

set_option maxRecDepth 100000
section
variable {H : Type} {enc : TypeId × Value → H} {w : World} {base : Nat} {sp : Nat → Bool} {held : Bool}

theorem okWide_two {r : Reach} {b0 : Nat} {v : Value} (h : Value.okWide Tryz.prog w r b0 56 v) : ∃ c0 c1, v = .agg #[c0, c1] := by
  unfold Value.okWide at h
  rw [ckUnd2] at h
  obtain ⟨cs, h1, h2, _⟩ := h
  rw [ckCells2] at h2
  obtain ⟨l⟩ := cs
  match l, h2 with
  | [c0, c1], _ => exact ⟨c0, c1, h1⟩

theorem open_two {r : Reach} {b0 : Nat} {v : Value} {d : DataW H} {ps : List MemPlace} (hval : Value.okWide Tryz.prog w r b0 56 v) (hd : DataW.Trod enc Tryz.prog w base sp held 56 v d ps) :
    ∃ s0 s1 : ByteArray, v = .agg #[.string s0, .string s1] ∧ d = .agg [.lit (.string s0.data.toList), .lit (.string s1.data.toList)] ∧ ps = [] ∧ s0.size ≤ maxLen ∧ s1.size ≤ maxLen := by
  obtain ⟨c0, c1, rfl⟩ := okWide_two hval
  obtain ⟨fuel, hf⟩ := hd
  cases fuel with
  | zero => simp [DataW.trod] at hf
  | succ n =>
    rw [DataW.trod_step] at hf
    unfold DataW.trodStep at hf
    simp only [ckUnd2, Value.cells] at hf
    rw [if_pos (by rw [ckCells2]; rfl)] at hf
    obtain ⟨xs, hx, e1⟩ := Option.map_eq_some_iff.1 hf
    rw [show List.range 2 = [0, 1] from rfl, List.mapM_cons, List.mapM_cons, List.mapM_nil] at hx
    simp only [bind, Option.bind_eq_some_iff, pure, Option.some.injEq, ckCellsT] at hx
    obtain ⟨y0, h0, _, ⟨y1, h1, _, rfl, rfl⟩, rfl⟩ := hx
    obtain ⟨s0, g0, k0, z0⟩ := DataW.trod_string Tryz.underlying9 h0
    obtain ⟨s1, g1, k1, z1⟩ := DataW.trod_string Tryz.underlying9 h1
    simp at g0 g1
    subst g0; subst g1; subst k0; subst k1
    simp only [Prod.mk.injEq] at e1
    exact ⟨s0, s1, rfl, by rw [← e1.1]; rfl, by rw [← e1.2]; rfl, z0, z1⟩

theorem shut_two {s0 s1 : ByteArray} (z0 : s0.size ≤ maxLen) (z1 : s1.size ≤ maxLen) :
    DataW.Trod enc Tryz.prog w base sp held 56 (.agg #[.string s0, .string s1]) (.agg [.lit (.string s0.data.toList), .lit (.string s1.data.toList)]) [] :=
  ⟨2, by
    show DataW.trod enc Tryz.prog w base sp held (1 + 1) 56 [.string s0, .string s1] = _
    rw [DataW.trod_step]
    unfold DataW.trodStep
    simp only [ckUnd2]
    rw [if_pos (by rw [ckCells2]; rfl), show List.range 2 = [0, 1] from rfl, List.mapM_cons, List.mapM_cons, List.mapM_nil]
    simp [ckCellsT, DataW.trod, Tryz.underlying9, z0, z1]⟩
end
end Go.Proofs.YtkhebidmfjbhaaaGreatDoor
namespace Go.Proofs.YtkhebidmfjbhaaaGreatDoor

theorem gcd_nat (x : Int) (n : Nat) : (Int.gcd x n : Int) = (x.natAbs.gcd n : Nat) := by
  unfold Int.gcd; rw [Int.natAbs_natCast]
theorem gcd_nats (m n : Nat) : (Int.gcd (m : Int) n : Int) = (m.gcd n : Nat) := by
  unfold Int.gcd; rw [Int.natAbs_natCast, Int.natAbs_natCast]
theorem fdiv_nat (x : Int) (n : Nat) : x.fdiv n = x / n := Int.fdiv_eq_ediv_of_nonneg _ (by omega)
theorem fdiv_nats (m n : Nat) : (m : Int).fdiv n = (m / n : Nat) := by rw [fdiv_nat]; rfl
theorem mn_num (num : Int) (den g : Nat) (h1 h2 h3 h4) : (Rat.maybeNormalize num den g h1 h2 h3 h4).num = num / g := by
  unfold Rat.maybeNormalize
  split
  · rename_i h; subst h; simp
  · show num.divExact g h1 = _
    rw [Int.divExact_eq_ediv]
theorem mn_den (num : Int) (den g : Nat) (h1 h2 h3 h4) : (Rat.maybeNormalize num den g h1 h2 h3 h4).den = den / g := by
  unfold Rat.maybeNormalize
  split
  · rename_i h; subst h; simp
  · show den.divExact g h2 = _
    rw [Nat.divExact_eq_div]
/-- The steps of plus. -/
theorem add_steps (a b : Rat) (g c d m h : Int) (hg : (Int.gcd a.den b.den : Int) = g) (hc : (a.den : Int).fdiv g = c) (hd : (b.den : Int).fdiv g = d) (hm : a.num * d + b.num * c = m) (hh : (Int.gcd m g : Int) = h) :
    m.fdiv h = (a + b).num ∧ c * (b.den : Int).fdiv h = ((a + b).den : Int) := by
  rw [gcd_nats] at hg
  subst hg
  rw [fdiv_nats] at hc hd
  subst hc hd
  rw [gcd_nat] at hh
  subst hh
  rw [fdiv_nat, fdiv_nats, ← Int.natCast_mul]
  have key : ((a + b).num = m / (m.natAbs.gcd (a.den.gcd b.den) : Nat)) ∧ (a + b).den = a.den / a.den.gcd b.den * b.den / m.natAbs.gcd (a.den.gcd b.den) := by
    show (Rat.add a b).num = _ ∧ (Rat.add a b).den = _
    rw [Rat.add]
    split
    · rename_i h1
      rw [h1] at hm ⊢
      rw [Nat.div_one, Nat.div_one] at hm
      rw [← hm]
      refine ⟨?_, ?_⟩ <;> simp
    · rw [mn_num, mn_den]
      rw [← hm]
      exact ⟨rfl, rfl⟩
  refine ⟨key.1.symm, ?_⟩
  rw [key.2, Nat.mul_div_assoc _ (Nat.dvd_trans (Nat.gcd_dvd_right _ _) (Nat.gcd_dvd_right _ _))]
/-- The quotient of two integers. -/
theorem quo_pos (x y : Int) (h : 0 < y) : x.fdiv (Int.gcd x y : Int) = (Rat.divInt x y).num ∧ y.fdiv (Int.gcd x y : Int) = ((Rat.divInt x y).den : Int) := by
  have hs : y.sign = 1 := Int.sign_eq_one_of_pos h
  have hc : Int.gcd x y = Int.gcd y x := Int.gcd_comm x y
  rw [Rat.num_divInt, Rat.den_divInt, if_neg (by omega), hs, Int.one_mul, hc, fdiv_nat, fdiv_nat]
  refine ⟨rfl, ?_⟩
  rw [Int.natCast_ediv, show ((y.natAbs : Nat) : Int) = y by omega]
theorem fdiv_neg_dvd (x g : Int) (h : g ∣ x) : x.fdiv (-g) = -(x / g) := by
  rw [Int.fdiv_eq_ediv_of_dvd (Int.neg_dvd.mpr h), Int.ediv_neg]
theorem quo_neg (x y : Int) (h : y < 0) : x.fdiv (-(Int.gcd x y : Int)) = (Rat.divInt x y).num ∧ y.fdiv (-(Int.gcd x y : Int)) = ((Rat.divInt x y).den : Int) := by
  have hs : y.sign = -1 := Int.sign_eq_neg_one_of_neg h
  have hc : Int.gcd x y = Int.gcd y x := Int.gcd_comm x y
  rw [Rat.num_divInt, Rat.den_divInt, if_neg (by omega), hs, hc, fdiv_neg_dvd _ _ (Int.gcd_dvd_right y x), fdiv_neg_dvd _ _ (Int.gcd_dvd_left y x)]
  refine ⟨?_, ?_⟩
  · rw [Int.neg_mul, Int.one_mul, Int.neg_ediv_of_dvd (Int.gcd_dvd_right y x)]
  · rw [Int.natCast_ediv, show ((y.natAbs : Nat) : Int) = -y by omega, Int.neg_ediv_of_dvd (Int.gcd_dvd_left y x)]
end Go.Proofs.YtkhebidmfjbhaaaGreatDoor
namespace Go.Proofs.YtkhebidmfjbhaaaGreatDoor
open Go.RowKit

theorem giveN {w w1 : World} {p v : Value} {x : Int} (h : NatV w1 p v x) (hb : Below w.heap.size w w1) : GivesN x w (.returned (.agg #[p, v])) w1 := ⟨p, v, rfl, h, hb⟩
theorem lz_own {z : Int} (h0 : 0 ≤ z) (h1 : z < 1000000000) : lz z 0 = z := by unfold lz; rw [div_bp_zero, Int.emod_eq_of_lt h0 h1]
theorem lz_two {z : Int} (h0 : 0 ≤ z) (h1 : z < bp 2) : lz z 1 * 1000000000 + lz z 0 = z := by
  rw [bp_two] at h1
  unfold lz
  rw [div_bp_zero, bp_one]
  omega
theorem nl_2 {z : Int} {k : Nat} (h : z < bp k) (hk : k ≤ 2) : nl z ≤ 2 := Nat.le_trans (nl_le h) hk

set_option maxHeartbeats 1000000 in
theorem trim_any (a : Option Addr) (n c : Nat) (z : Int) (w : World) (hz : 0 ≤ z) (hz' : z < bp n) (hc : n ≤ c) (hm : n ≤ 100000) (hr : Row w w.heap.size a n z) :
    Calls Tryz.prog 201 #[.slice a n c] w (GivesN z w) := by
  have HZ := Lib.hid hz'
  have HR := Lib.hid hr
  clear hr hz'
  go_enter Tryz.func201, Tryz.ntmps201
  go_wp2
  go_loop [3] (fun v => ∃ k : Nat, k ≤ n ∧ z < bp k ∧ v = .int .i64 k) (fun v => (intOf v).toNat)
  case atStart => exact ⟨n, by omega, HZ.out, rfl⟩
  case round =>
    obtain ⟨k, hk, hzk, rfl⟩ := hrel
    have HK := Lib.hid hzk
    clear hzk
    rcases Nat.eq_zero_or_pos k with hk0 | hk0
    · subst hk0
      have hz0 : z = 0 := by have := HK.out; rw [bp_zero] at this; omega
      subst hz0
      go_wp2
      exact bodyPost_ret (v := .agg #[.int .u64 0, .slice none 0 0]) (by simp [results, Tryz.results201, go_sem]) rfl (giveN (NatV.zero _) ((Below.refl _ _).alloc (Nat.le_refl _) _))
    · obtain ⟨g, o, rfl, hg, hcl⟩ := HR.out (by omega)
      have hcell := hcl (k - 1) (by omega)
      have hb := lz_bd z (k - 1)
      have HCL := Lib.hid hcl
      clear hcl
      by_cases he : lz z (k - 1) = 0
      · rw [he] at hcell
        clear hb
        go_wp2
        go_round
        case rel => exact ⟨k - 1, by omega, lt_of_top hz (by rw [show k - 1 + 1 = k by omega]; exact HK.out) he, by go_num⟩
        case measure => simp [intOf]; omega
      · have hn : k = nl z := by
          have := nl_of_top (k := k - 1) hz (by rw [show k - 1 + 1 = k by omega]; exact HK.out) he
          omega
        have hbe : (lz z (k - 1) == 0) = false := by simpa using he
        have HN := Lib.hid hn
        clear hn he
        by_cases h1 : k = 1
        · subst h1
          have e0 : lz z 0 = z := lz_own hz (by have := HK.out; rw [bp_one] at this; exact this)
          rw [show 1 - 1 = 0 from rfl, e0] at hcell hbe hb
          clear e0
          have hcell' : w.cell? ⟨g, o, none⟩ = some (.int .u64 z) := hcell
          go_wp2
          exact bodyPost_ret (v := .agg #[.int .u64 z, .slice none 0 0]) (by simp [results, Tryz.results201, go_sem]) rfl (giveN (NatV.word hz (nl_2 HK.out (by omega))) ((Below.refl _ _).alloc (Nat.le_refl _) _))
        · by_cases h2 : k = 2
          · subst h2
            have e0 := lz_two hz HK.out
            have E0 := Lib.hid e0
            have c0 : w.cell? ⟨g, o, none⟩ = some (.int .u64 (lz z 0)) := HCL.out 0 (by omega)
            have i0 : (0 : Int) < (n : Int) := by omega
            have i1 : (1 : Int) < (n : Int) := by omega
            have hb0 := lz_bd z 0
            rw [show 2 - 1 = 1 from rfl] at hcell hbe hb
            clear e0
            generalize lz z 0 = l0 at *
            generalize lz z 1 = l1 at *
            go_wp2
            go_region
            all_goals
              go_wp2
              exact bodyPost_ret (v := .agg #[.int .u64 z, .slice none 0 0]) (by simp [results, Tryz.results201, go_sem]; exact E0.out) rfl (giveN (NatV.word hz (nl_2 HK.out (by omega))) (((Below.refl _ _).alloc (Nat.le_refl _) _)).drew)
          · go_wp2
            exact bodyPost_ret (v := .agg #[.int .u64 0, .slice (some ⟨g, o, none⟩) k k]) (by simp [results, Tryz.results201, go_sem]) rfl (giveN (NatV.long hz HN.out (by omega) (by omega) ((HR.out.less hk).below ((Below.refl _ _).alloc (Nat.le_refl _) _)) (by simp)) ((Below.refl _ _).alloc (Nat.le_refl _) _))
end Go.Proofs.YtkhebidmfjbhaaaGreatDoor
namespace Go.Proofs.YtkhebidmfjbhaaaGreatDoor
open Go.RowKit

theorem three_row {w1 : World} {g : Nat} {n : Int} (h0 : 0 ≤ n) 
    (c0 : w1.cell? ⟨g, 0, none⟩ = some (.int .u64 (n % 1000000000))) (c1 : w1.cell? ⟨g, 1, none⟩ = some (.int .u64 (n / 1000000000 % 1000000000))) (c2 : w1.cell? ⟨g, 2, none⟩ = some (.int .u64 (n / 1000000000000000000))) (hs : n / 1000000000000000000 < 1000000000) (hg : g < w1.heap.size) :
    Row w1 w1.heap.size (some ⟨g, 0, none⟩) 3 n := fun _ => ⟨g, 0, rfl, hg, fun j hj => by
  have e1 : lz n 0 = n % 1000000000 := by unfold lz; rw [div_bp_zero]
  have e2 : lz n 1 = n / 1000000000 % 1000000000 := by unfold lz; rw [bp_one]
  have e3 : lz n 2 = n / 1000000000000000000 := by
    unfold lz; rw [bp_two, Int.emod_eq_of_lt (Int.ediv_nonneg h0 (by omega)) hs]
  match j, hj with
  | 0, _ => rw [e1]; exact c0
  | 1, _ => rw [e2]; exact c1
  | 2, _ => rw [e3]; exact c2⟩
theorem of_word (n : Int) (w : World) (h0 : 0 ≤ n) (h1 : n < 1000000000000000000) :
    Calls Tryz.prog 174 #[.int .u64 n] w (GivesN n w) := by
  go_enter Tryz.func174, Tryz.ntmps174
  go_wp2
  exact bodyPost_ret (v := .agg #[.int .u64 n, .slice none 0 0]) (by simp [results, Tryz.results174, go_sem]) rfl (giveN (NatV.word h0 ((nl_word h0).2 h1)) ((Below.refl _ _).alloc (Nat.le_refl _) _))
theorem of_long (n : Int) (w : World) (h0 : 1000000000000000000 ≤ n) (h1 : n ≤ 18446744073709551615) :
    Calls Tryz.prog 174 #[.int .u64 n] w (GivesN n w) := by
  have hn3 : 3 = nl n := (nl_eq (k := 2) (by rw [bp_two]; exact h0) (by rw [bp_succ, bp_two]; omega)).symm
  have HN := Lib.hid hn3
  clear hn3
  go_enter Tryz.func174, Tryz.ntmps174
  go_wp2
  refine bodyPost_ret (v := .agg #[.int .u64 0, .slice (some ⟨w.heap.size + 1, 0, none⟩) 3 3]) (by simp [results, Tryz.results174, go_sem]) rfl (giveN (NatV.long (by omega) HN.out (by omega) (by omega) (three_row (by omega) ?_ ?_ ?_ (by omega) ?_) (Nat.le_refl _)) (((Below.refl _ _).alloc (Nat.le_refl _) _).alloc (by simp) _))
  · rw [World.cell?_alloc_at _ _ _ _ (by simp)]; rfl
  · rw [World.cell?_alloc_at _ _ _ _ (by simp)]; rfl
  · rw [World.cell?_alloc_at _ _ _ _ (by simp)]; rfl
  · simp
theorem nof_any (n : Int) (w : World) (h0 : 0 ≤ n) (h1 : n ≤ 18446744073709551615) :
    Calls Tryz.prog 174 #[.int .u64 n] w (GivesN n w) := by
  rcases Int.lt_or_le n 1000000000000000000 with h | h
  · exact of_word n w h0 h
  · exact of_long n w h h1
/-- The call hands back b and leaves the number in a box. -/
def GivesBx (b : Bool) (o : Obj) (w : World) (e : Ending) (w' : World) : Prop := e = .returned (.bool b) ∧ w.alloc o = w'
theorem isWord_any (p v : Value) (x : Int) (w : World) (hu : NatV w p v x) :
    Calls Tryz.prog 149 #[.agg #[p, v]] w (GivesBx (decide (nl x ≤ 2)) (.cells #[p, v] 72) w) := by
  obtain ⟨t, a, n, rfl, rfl, ht, hn, hn1, hx0, _, _⟩ := hu.form
  have HN := Lib.hid hn
  clear hu ht hn
  go_enter Tryz.func149, Tryz.ntmps149
  go_wp2
  go_ret
  refine ⟨ret_bool ?_, rfl⟩
  have h := ml_zero_iff x
  rw [← HN.out] at h
  by_cases h2 : nl x ≤ 2
  · simp [h2, h.2 h2]
  · have : n ≠ 0 := fun e => h2 (h.1 e)
    simp [h2]; omega
theorem isWord_yes (p v : Value) (x : Int) (w : World) (hu : NatV w p v x) (h : nl x ≤ 2) :
    Calls Tryz.prog 149 #[.agg #[p, v]] w (GivesBx true (.cells #[p, v] 72) w) := by
  have := isWord_any p v x w hu
  rwa [decide_eq_true h] at this
theorem isWord_no (p v : Value) (x : Int) (w : World) (hu : NatV w p v x) (h : 2 < nl x) :
    Calls Tryz.prog 149 #[.agg #[p, v]] w (GivesBx false (.cells #[p, v] 72) w) := by
  have := isWord_any p v x w hu
  rwa [decide_eq_false (by omega)] at this
theorem isZero_any (p v : Value) (x : Int) (w : World) (hu : NatV w p v x) :
    Calls Tryz.prog 101 #[.agg #[p, v]] w fun e w' => e = .returned (.bool (decide (x = 0))) ∧ (w.alloc (.cells #[p, v] 72)).alloc (.cells #[p, v] 72) = w' := by
  rcases Nat.lt_or_ge 2 (nl x) with h | h
  · obtain ⟨g, o, n, hn, hn2, hn3, rfl, rfl, hg, hc⟩ := hu.large h
    have hw := fun W (hb : Below w.heap.size w W) => isWord_no _ _ x W (hu.below hb) h
    have HW := Lib.hid hw
    have hx : decide (x = 0) = false := decide_eq_false (fun e => by rw [e, nl_zero] at h; omega)
    rw [hx]
    clear hu hn hc hw hx
    go_enter Tryz.func101, Tryz.ntmps101
    go_wp2_with fail
    refine (HW.out _ ((Below.refl _ _).alloc (Nat.le_refl _) _)).mono ?_
    rintro e w' ⟨rfl, rfl⟩
    go_wp2
    go_ret
    exact ⟨rfl, rfl⟩
  · obtain ⟨rfl, rfl⟩ := hu.small h
    have hw := fun W (hb : Below w.heap.size w W) => isWord_yes _ _ x W (hu.below hb) h
    have HW := Lib.hid hw
    have hx : (x == 0) = decide (x = 0) := by by_cases e : x = 0 <;> simp [e]
    have HX := Lib.hid hx
    clear hu hw hx
    go_enter Tryz.func101, Tryz.ntmps101
    go_wp2_with fail
    refine (HW.out _ ((Below.refl _ _).alloc (Nat.le_refl _) _)).mono ?_
    rintro e w' ⟨rfl, rfl⟩
    go_wp2
    go_ret
    exact ⟨ret_bool HX.out, rfl⟩

/-- The call hands back b and leaves the number in two boxes. -/
def GivesBy (b : Bool) (o : Obj) (w : World) (e : Ending) (w' : World) : Prop := e = .returned (.bool b) ∧ (w.alloc o).alloc o = w'
theorem isZero_true (p v : Value) (w : World) (hu : NatV w p v 0) :
    Calls Tryz.prog 101 #[.agg #[p, v]] w (GivesBy true (.cells #[p, v] 72) w) := isZero_any p v 0 w hu
theorem isZero_false (p v : Value) (x : Int) (w : World) (hu : NatV w p v x) (hx : x ≠ 0) :
    Calls Tryz.prog 101 #[.agg #[p, v]] w (GivesBy false (.cells #[p, v] 72) w) := by
  have := isZero_any p v x w hu
  rwa [decide_eq_false hx] at this
/-- The call hands back the limbs of x. -/
def GivesL (B : Nat) (x : Int) (w : World) (e : Ending) (w' : World) : Prop := ∃ a, e = .returned (.slice a (nl x) (nl x)) ∧ RowB w' B w.heap.size a (nl x) x ∧ Below w.heap.size w w'
theorem giveL {w w1 : World} {B : Nat} {a : Option Addr} {n : Nat} {x : Int} (hn : n = nl x) (h : RowB w1 B w.heap.size a n x) (hb : Below w.heap.size w w1) : GivesL B x w (.returned (.slice a n n)) w1 := by subst hn; exact ⟨a, rfl, h, hb⟩
theorem spread_any (p v : Value) (x : Int) (W0 w : World) (hu0 : NatV W0 p v x) (hbb : Below W0.heap.size W0 w) :
    Calls Tryz.prog 200 #[.agg #[p, v]] w (GivesL W0.heap.size x w) := by
  have hu := hu0.below hbb
  have hx0 := hu.1
  rcases Nat.lt_or_ge 2 (nl x) with h | h
  · obtain ⟨g, o, n, hn, hn2, hn3, rfl, rfl, hg0, hc0⟩ := hu0.large h
    have hc : ∀ j, j < n → w.cell? ⟨g, o + j, none⟩ = some (.int .u64 (lz x j)) := fun j hj => (below_at hbb _ hg0).trans (hc0 j hj)
    have hg : g < w.heap.size := Nat.lt_of_lt_of_le hg0 hbb.size
    have hw := fun W (hb : Below w.heap.size w W) => isWord_no _ _ x W (hu.below hb) h
    have HW := Lib.hid hw
    have HN := Lib.hid hn
    have HC := Lib.hid hc
    have B2 := Lib.hid (((Below.refl w.heap.size w).alloc (Nat.le_refl _) (.cells #[.int .u64 0, .slice (some ⟨g, o, none⟩) n n] 72)).alloc (by simp) (.cells #[.int .u64 0, .slice (some ⟨g, o, none⟩) n n] 72))
    clear hu hu0 hn hc hc0 hw
    go_enter Tryz.func200, Tryz.ntmps200
    go_wp2_with fail
    refine (HW.out _ ((Below.refl _ _).alloc (Nat.le_refl _) _)).mono ?_
    rintro e w' ⟨rfl, rfl⟩
    go_wp2
    go_ret
    exact giveL HN.out (fun _ => ⟨g, o, rfl, .inl hg0, Nat.lt_of_lt_of_le hg B2.out.size, fun j hj => (below_at B2.out _ hg).trans (HC.out j hj)⟩) B2.out
  · obtain ⟨rfl, rfl⟩ := hu.small h
    have hw := fun W (hb : Below w.heap.size w W) => isWord_yes _ _ x W (hu.below hb) h
    have HW := Lib.hid hw
    have hx1 := (nl_word hx0).1 h
    have B2 := Lib.hid (((Below.refl w.heap.size w).alloc (Nat.le_refl _) (.cells #[.int .u64 x, .slice none 0 0] 72)).alloc (by simp) (.cells #[.int .u64 x, .slice none 0 0] 72))
    clear hu hu0 hw h
    by_cases h2 : 1000000000 ≤ x
    · have hn : 2 = nl x := (nl_eq (k := 1) (by rw [bp_one]; exact h2) (by rw [bp_two]; exact hx1)).symm
      have HN := Lib.hid hn
      clear hn
      have hlo : decide (x < 1000000000) = false := decide_eq_false (by omega)
      go_enter Tryz.func200, Tryz.ntmps200
      go_wp2_with fail
      refine (HW.out _ ((Below.refl _ _).alloc (Nat.le_refl _) _)).mono ?_
      rintro e w' ⟨rfl, rfl⟩
      go_wp2
      go_ret
      refine giveL HN.out (fun _ => ⟨w.heap.size + 1 + 1, 0, rfl, .inr (by omega), by simp, fun j hj => ?_⟩) (B2.out.alloc (by simp; omega) _)
      rw [World.cell?_alloc_at _ _ _ _ (by simp)]
      have e1 : lz x 0 = x % 1000000000 := by unfold lz; rw [div_bp_zero]
      have e2 : lz x 1 = x / 1000000000 := by unfold lz; rw [bp_one]; omega
      match j, hj with
      | 0, _ => rw [e1]; rfl
      | 1, _ => rw [e2]; rfl
    · by_cases h3 : 0 < x
      · have hn : 1 = nl x := (nl_one h3 (by omega)).symm
        have HN := Lib.hid hn
        clear hn
        go_enter Tryz.func200, Tryz.ntmps200
        go_wp2_with fail
        refine (HW.out _ ((Below.refl _ _).alloc (Nat.le_refl _) _)).mono ?_
        rintro e w' ⟨rfl, rfl⟩
        go_wp2
        go_ret
        refine giveL HN.out (fun _ => ⟨w.heap.size + 1 + 1, 0, rfl, .inr (by omega), by simp, fun j hj => ?_⟩) (B2.out.alloc (by simp; omega) _)
        rw [World.cell?_alloc_at _ _ _ _ (by simp)]
        match j, hj with
        | 0, _ => rw [lz_own hx0 (by omega)]; rfl
      · obtain rfl : x = 0 := by omega
        go_enter Tryz.func200, Tryz.ntmps200
        go_wp2_with fail
        refine (HW.out _ ((Below.refl _ _).alloc (Nat.le_refl _) _)).mono ?_
        rintro e w' ⟨rfl, rfl⟩
        go_wp2
        go_ret
        exact giveL nl_zero.symm (fun h => absurd h (by omega)) B2.out
end Go.Proofs.YtkhebidmfjbhaaaGreatDoor
namespace Go.Proofs.YtkhebidmfjbhaaaGreatDoor
open Go.RowKit

theorem infoU64 : (Tryz.prog.info? 69).map (fun i => (i.zero, i.size, i.bytes)) = some (some (.int .u64 0), 1, 8) := by kernel_rfl
theorem undU64s : Tryz.prog.underlying 70 = some (.slice 69) := by kernel_rfl
theorem mk_u64 (n : Nat) (hn : n ≤ 1000000) (w : World) : (Instr.makeSlice 70 (.int .i64 (n : Int)) (.int .i64 (n : Int))).run Tryz.prog w = .ok (.slice (some ⟨w.heap.size, 0, none⟩) n n) (w.alloc (.cells (madeCells #[.int .u64 0] n) 69)) :=
  run_make_row' _ _ (.int .u64 0) 8 undU64s infoU64 rfl .i64 .i64 n (by omega) (by omega) w
theorem made_get (n j : Nat) (h : j < n) : (madeCells #[Value.int .u64 0] n)[j]? = some (.int .u64 0) := by
  unfold madeCells
  simp [h, Nat.mod_one]

/-- w1 is w and new blocks, one of which, g, is a row of the call's own that holds the lowest n limbs of z. -/
structure Fresh (w w1 : World) (g n : Nat) (z : Int) : Prop where
  below : Below w.heap.size w w1
  ge : w.heap.size ≤ g
  lt : g < w1.heap.size
  cells : ∀ j, j < n → w1.cell? ⟨g, 0 + j, none⟩ = some (.int .u64 (lz z j))
  free : ∀ j, j < n → w1.frozen? ⟨g, 0 + j, none⟩ = false
theorem Fresh.made (w : World) (n : Nat) : Fresh w (w.alloc (.cells (madeCells #[.int .u64 0] n) 69)) w.heap.size n 0 where
  below := (Below.refl _ _).alloc (Nat.le_refl _) _
  ge := Nat.le_refl _
  lt := by simp
  cells := fun j hj => by rw [Nat.zero_add, World.cell?_alloc_new, made_get n j hj, lz_zero]
  free := fun j hj => by rw [World.frozen?_alloc_new]
theorem Fresh.wrote {w w1 w2 : World} {g n : Nat} {z z' : Int} (h : Fresh w w1 g n z) (hc : Cells w1 w2 g 0 n (lz z')) : Fresh w w2 g n z' where
  below := h.below.trans (hc.below h.ge)
  ge := h.ge
  lt := by rw [hc.size]; exact h.lt
  cells := hc.cells
  free := fun j hj => by rw [hc.frozen]; exact h.free j hj
theorem Fresh.cell' {w w1 : World} {g n : Nat} {z : Int} (h : Fresh w w1 g n z) (j : Nat) (hj : j < n) : w1.cell? ⟨g, j, none⟩ = some (.int .u64 (lz z j)) := by have := h.cells j hj; rwa [Nat.zero_add] at this
theorem Fresh.free' {w w1 : World} {g n : Nat} {z : Int} (h : Fresh w w1 g n z) (j : Nat) (hj : j < n) : w1.frozen? ⟨g, j, none⟩ = false := by have := h.free j hj; rwa [Nat.zero_add] at this
theorem Fresh.row {w w1 : World} {g n : Nat} {z : Int} (h : Fresh w w1 g n z) : Row w1 w1.heap.size (some ⟨g, 0, none⟩) n z := fun _ => ⟨g, 0, rfl, h.lt, h.cells⟩
theorem copy_made {B : Nat} (w : World) (g0 : Nat) (hg0 : g0 = w.heap.size) (a : Option Addr) (n k : Nat) (x : Int) (hn : n ≤ k) (h0 : 0 ≤ x) (h1 : x < bp n) (hr : Row w B a n x) (hB : B ≤ w.heap.size) :
    ∃ w1, (Builtin.copy_ #[70, 70] 3 #[.slice (some ⟨g0, 0, none⟩) k k, .slice a n n]).run Tryz.prog (w.alloc (.cells (madeCells #[.int .u64 0] k) 69)) = .ok (.int .i64 (n : Int)) w1 ∧ Fresh w w1 g0 k x := by
  subst hg0
  have hs : (Tryz.prog.info? 69).map (·.size) = some 1 := by kernel_rfl
  rcases Nat.eq_zero_or_pos n with e | e
  · subst e
    refine ⟨_, run_copy_none (P := Tryz.prog) _ _ _ _ 69 _ _ _ _ _ _ undU64s hs (by simp), ?_⟩
    have hx : x = 0 := by rw [bp_zero] at h1; omega
    subst hx
    exact Fresh.made w k
  · obtain ⟨g, o, rfl, hg, hc⟩ := hr e
    let cs : List Value := (List.range n).map fun j => .int .u64 (lz x j)
    have hl : cs.length = n := by simp [cs]
    have hget : ∀ j, j < n → cs[j]? = some (.int .u64 (lz x j)) := fun j hj => by simp [cs, hj]
    have hrun := run_copy_row (P := Tryz.prog) (w.alloc (.cells (madeCells #[.int .u64 0] k) 69)) 70 70 3 69 w.heap.size 0 k k ⟨g, o, none⟩ n n (madeCells #[.int .u64 0] k) 69 cs undU64s hs
      (by show (w.heap.push _)[w.heap.size]? = _; simp) (by rw [hl]; show n = min n k; omega) (fun j v hj => by
        have hjn : j < n := by
          rcases Nat.lt_or_ge j n with h | h
          · exact h
          · rw [List.getElem?_eq_none (by rw [hl]; exact h)] at hj; cases hj
        rw [hget j hjn] at hj
        rw [WideShapes.add_plain, World.cell?_alloc_past _ _ _ (by omega), hc j hjn, hj]) (by rw [size_madeCells, hl]; omega) (by intro v hv; simp only [cs, List.mem_map] at hv; obtain ⟨j, _, rfl⟩ := hv; rfl)
    rw [hl] at hrun
    refine ⟨_, hrun, ?_⟩
    have hg0 : (w.alloc (.cells (madeCells #[.int .u64 0] k) 69)).heap[w.heap.size]? = some (.cells (madeCells #[.int .u64 0] k) 69 (0, 0)) := by show (w.heap.push _)[w.heap.size]? = _; simp
    refine ⟨below_setRow ((Below.refl _ _).alloc (Nat.le_refl _) _) (Nat.le_refl _) _, Nat.le_refl _, by simp [World.setRow], fun j hj => ?_, fun j hj => ?_⟩
    · rw [Nat.zero_add, cell_setRow_same _ _ _ _ _ _ _ hg0]
      simp only [List.take_zero, List.nil_append, List.getElem?_toArray, Nat.zero_add]
      by_cases hjn : j < n
      · rw [List.getElem?_append_left (by rw [hl]; exact hjn), hget j hjn]
      · rw [List.getElem?_append_right (by rw [hl]; omega), hl, List.getElem?_drop, show n + (j - n) = j by omega, Array.getElem?_toList, made_get k j hj, lz_high h0 h1 (by omega)]
    · unfold World.frozen?
      rw [setRow_heap _ _ _ _ _ _ hg0]
      simp


theorem below_undrew {w w' : World} (h : Below w.drew.heap.size w.drew w') : Below w.heap.size w w' := ⟨h.os, h.tape, h.output, h.size, h.block⟩
/-- The boxes of two natural numbers and the one of the result, from the end of w on. -/
structure Box2 (w W : World) (p v q u : Value) : Prop where
  sz : w.heap.size + 1 + 1 < W.heap.size
  below : Below w.heap.size w W
  p0 : W.cell? ⟨w.heap.size, 0, none⟩ = some p
  p1 : W.cell? ⟨w.heap.size, 1, none⟩ = some v
  q0 : W.cell? ⟨w.heap.size + 1, 0, none⟩ = some q
  q1 : W.cell? ⟨w.heap.size + 1, 1, none⟩ = some u
  res : ResN W (w.heap.size + 1 + 1)
theorem Box2.new (w : World) (p v q u : Value) (T : TypeId) : Box2 w (((w.alloc (.cells #[p, v] T)).alloc (.cells #[q, u] T)).alloc (.cells #[.int .u64 0, .slice none 0 0] T)) p v q u where
  sz := by simp
  below := ((Below.refl _ _).alloc (Nat.le_refl _) _).alloc (by simp) _ |>.alloc (by simp; omega) _
  p0 := by rw [World.cell?_alloc_past _ _ _ (by simp; omega), World.cell?_alloc_past _ _ _ (by simp), World.cell?_alloc_new]; rfl
  p1 := by rw [World.cell?_alloc_past _ _ _ (by simp; omega), World.cell?_alloc_past _ _ _ (by simp), World.cell?_alloc_new]; rfl
  q0 := by rw [World.cell?_alloc_past _ _ _ (by simp), World.cell?_alloc_at _ _ _ _ (by simp)]; rfl
  q1 := by rw [World.cell?_alloc_past _ _ _ (by simp), World.cell?_alloc_at _ _ _ _ (by simp)]; rfl
  res := ResN.new _ _ _ (by simp)
theorem Box2.step {w W W' : World} {p v q u : Value} (h : Box2 w W p v q u) (hb : Below W.heap.size W W') : Box2 w W' p v q u := by
  have h1 := h.sz
  exact ⟨by have := hb.size; omega, h.below.trans (hb.mono (by omega)), (below_at hb 0 (by omega)).trans h.p0, (below_at hb 1 (by omega)).trans h.p1, (below_at hb 0 (by omega)).trans h.q0, (below_at hb 1 (by omega)).trans h.q1, h.res.below hb (by omega)⟩
theorem alloc_below (w : World) (o : Obj) : Below w.heap.size w (w.alloc o) := (Below.refl _ _).alloc (Nat.le_refl _) _
theorem below_drew (w : World) : Below w.heap.size w w.drew := (Below.refl _ _).drew
/-- The result is written into its box. -/
theorem Box2.fin {w W : World} {p v q u p' v' : Value} {z : Int} (h : Box2 w W p v q u) (hv : NatV W p' v' z) : GivesN z w (.returned (.agg #[p', v'])) ((W.setCell ⟨w.heap.size + 1 + 1, 0, none⟩ p').setCell ⟨w.heap.size + 1 + 1, 1, none⟩ v') :=
  giveN (hv.put h.res.c1 _ _) (below_set (below_set h.below 0 (by omega) _) 1 (by omega) _)

theorem sum_lt {x y : Int} {n m k : Nat} (hx : x < bp n) (hy : y < bp m) (h1 : n ≤ k) (h2 : m ≤ k) : x + y < bp (k + 1) := by
  have := bp_mono h1; have := bp_mono h2; have := bp_pos k; rw [bp_succ]; omega
set_option maxHeartbeats 1000000 in
theorem sum_words (p v q u : Value) (x y : Int) (w : World) (hu : NatV w p v x) (hv : NatV w q u y) (hx : nl x ≤ 2) (hy : nl y ≤ 2) :
    Calls Tryz.prog 179 #[.agg #[p, v], .agg #[q, u]] w (GivesN (x + y) w) := by
  have hx0 := hu.1
  have hy0 := hv.1
  have hx1 := (nl_word hx0).1 hx
  have hy1 := (nl_word hy0).1 hy
  have hw1 := fun W (hb : Below w.heap.size w W) => isWord_yes _ _ x W (hu.below hb) hx
  have hw2 := fun W (hb : Below w.heap.size w W) => isWord_yes _ _ y W (hv.below hb) hy
  obtain ⟨rfl, rfl⟩ := hu.small hx
  obtain ⟨rfl, rfl⟩ := hv.small hy
  have HW1 := Lib.hid hw1
  have HW2 := Lib.hid hw2
  have hB := Box2.new w (.int .u64 x) (.slice none 0 0) (.int .u64 y) (.slice none 0 0) 72
  obtain ⟨W0, hW0⟩ : ∃ W0, W0 = (((w.alloc (.cells #[.int .u64 x, .slice none 0 0] 72)).alloc (.cells #[.int .u64 y, .slice none 0 0] 72)).alloc (.cells #[.int .u64 0, .slice none 0 0] 72)) := ⟨_, rfl⟩
  rw [← hW0] at hB
  have HB := Lib.hid hB
  obtain ⟨_, _, c00, c01, c10, c11, _⟩ := hB
  clear hu hv hw1 hw2 hx hy
  go_enter Tryz.func179, Tryz.ntmps179
  go_wp2_with fail
  rw [← hW0]
  clear hW0
  refine (HW1.out _ HB.out.below).mono ?_
  rintro e w1 ⟨rfl, rfl⟩
  have B1 := Lib.hid (HB.out.step (alloc_below W0 (.cells #[.int .u64 x, .slice none 0 0] 72)))
  generalize W0.alloc (.cells #[.int .u64 x, .slice none 0 0] 72) = W1 at *
  clear c00 c01 c10 c11
  obtain ⟨_, _, c00, c01, c10, c11, _⟩ := B1.out
  go_wp2_with fail
  refine (HW2.out _ B1.out.below).mono ?_
  rintro e w1 ⟨rfl, rfl⟩
  have B2 := Lib.hid (B1.out.step (alloc_below W1 (.cells #[.int .u64 y, .slice none 0 0] 72)))
  generalize W1.alloc (.cells #[.int .u64 y, .slice none 0 0] 72) = W2 at *
  clear c00 c01 c10 c11
  obtain ⟨_, _, c00, c01, c10, c11, ⟨r0, r1, r2, r3⟩⟩ := B2.out
  go_wp2_with fail
  refine (nof_any (x + y) W2 (by omega) (by omega)).mono ?_
  rintro e w3 ⟨p3, v3, rfl, hv3, hb3⟩
  have B3 := Lib.hid (B2.out.step hb3)
  have HV3 := Lib.hid hv3
  obtain ⟨t3, a3, n3, rfl, rfl, ht3, hn3, _, _, _, _⟩ := hv3.form
  have HT3 := Lib.hid ht3
  have HN3 := Lib.hid hn3
  clear c00 c01 c10 c11 r0 r1 r2 r3 hv3 hb3 ht3 hn3
  obtain ⟨_, _, _, _, _, _, ⟨r0, r1, r2, r3⟩⟩ := B3.out
  go_wp2
  exact bodyPost_ret (v := .agg #[.int .u64 t3, .slice a3 n3 n3]) (by simp [results, Tryz.results179, go_sem, r0, r1]) rfl (B3.out.fin HV3.out)
set_option maxHeartbeats 2000000 in
theorem sum_rows (p v q u : Value) (x y : Int) (w : World) (hu : NatV w p v x) (hv : NatV w q u y) (hx : nl x ≤ 50000) (hy : nl y ≤ 50000) (hl : 2 < nl x ∨ (nl x ≤ 2 ∧ 2 < nl y)) :
    Calls Tryz.prog 179 #[.agg #[p, v], .agg #[q, u]] w (GivesN (x + y) w) := by
  have hx0 := hu.1
  have hy0 := hv.1
  obtain ⟨n, hn⟩ : ∃ n, n = nl x := ⟨_, rfl⟩
  obtain ⟨m, hm⟩ : ∃ m, m = nl y := ⟨_, rfl⟩
  obtain ⟨k, hk⟩ : ∃ k, k = max n m := ⟨_, rfl⟩
  have hk1 : n ≤ k := by omega
  have hk2 : m ≤ k := by omega
  have hk3 : k ≤ 50000 := by omega
  have HX : Hid (x < bp n) := by show _ < _; rw [hn]; exact nl_lt hx0
  have HY : Hid (y < bp m) := by show _ < _; rw [hm]; exact nl_lt hy0
  have hmk := mk_u64 (k + 1) (by omega)
  rw [show ((k + 1 : Nat) : Int) = max (n : Int) (m : Int) + 1 by omega] at hmk
  have HU := Lib.hid hu
  have HV := Lib.hid hv
  have SX := Lib.hid (fun W (hb : Below w.heap.size w W) => spread_any p v x w W hu hb)
  have SY := Lib.hid (fun W (hb : Below w.heap.size w W) => spread_any q u y w W hv hb)
  have HN := Lib.hid hn
  have HM := Lib.hid hm
  have HMK := Lib.hid hmk
  obtain ⟨t, a, n0, rfl, rfl, ht, hn0, _, _, _, _⟩ := hu.form
  obtain ⟨s, b, m0, rfl, rfl, hs, hm0, _, _, _, _⟩ := hv.form
  have hB := Box2.new w (.int .u64 t) (.slice a n0 n0) (.int .u64 s) (.slice b m0 m0) 72
  obtain ⟨W0, hW0⟩ : ∃ W0, W0 = (((w.alloc (.cells #[.int .u64 t, .slice a n0 n0] 72)).alloc (.cells #[.int .u64 s, .slice b m0 m0] 72)).alloc (.cells #[.int .u64 0, .slice none 0 0] 72)) := ⟨_, rfl⟩
  rw [← hW0] at hB
  have HB := Lib.hid hB
  have WX := Lib.hid (fun W (hb : Below w.heap.size w W) => isWord_any _ _ x W (hu.below hb))
  have WY := Lib.hid (fun W (hb : Below w.heap.size w W) => isWord_any _ _ y W (hv.below hb))
  obtain ⟨_, _, c00, c01, c10, c11, _⟩ := hB
  clear hu hv ht hs hn0 hm0 hk hn hm hmk
  have hgo : ∃ W1, Box2 w W1 (.int .u64 t) (.slice a n0 n0) (.int .u64 s) (.slice b m0 m0) := ⟨W0, HB.out⟩
  clear hgo
  go_enter Tryz.func179, Tryz.ntmps179
  go_wp2_with fail
  rw [← hW0]
  clear hW0
  refine (WX.out _ HB.out.below).mono ?_
  rintro e w1 ⟨rfl, rfl⟩
  have B1 := Lib.hid (HB.out.step (alloc_below W0 (.cells #[.int .u64 t, .slice a n0 n0] 72)))
  generalize W0.alloc (.cells #[.int .u64 t, .slice a n0 n0] 72) = W1 at *
  clear c00 c01 c10 c11 HB
  obtain ⟨_, _, c00, c01, c10, c11, _⟩ := B1.out
  rcases hl with hl | ⟨hl, hl2⟩
  all_goals (first | (rw [decide_eq_false (show ¬ nl x ≤ 2 by omega)]; go_wp2_with fail; rename World => W2; have B2 := B1; clear B1) | (rw [decide_eq_true hl]; go_wp2_with fail; refine (WY.out _ B1.out.below).mono ?_; rintro e w1 ⟨rfl, rfl⟩; have B2 := Lib.hid (B1.out.step (alloc_below W1 (.cells #[.int .u64 s, .slice b m0 m0] 72))); generalize W1.alloc (.cells #[.int .u64 s, .slice b m0 m0] 72) = W2 at *; clear c00 c01 c10 c11 B1; obtain ⟨_, _, c00, c01, c10, c11, _⟩ := B2.out; rw [decide_eq_false (show ¬ nl y ≤ 2 by omega)]; go_wp2_with fail))
  all_goals
    have ST := B2
    clear B2 HU HV WX WY
    go_region_held3 (fun W => W.cell? ⟨w.heap.size, 0, none⟩ = some (.int .u64 t) ∧ W.cell? ⟨w.heap.size, 1, none⟩ = some (.slice a n0 n0) ∧ W.cell? ⟨w.heap.size + 1, 0, none⟩ = some (.int .u64 s) ∧ W.cell? ⟨w.heap.size + 1, 1, none⟩ = some (.slice b m0 m0)) (exact ⟨c00, c01, c10, c11⟩) (first | (go_at_call 200; (with_reducible refine Calls.mono (SX.out _ ?hv) ?_); (case hv => first | exact ST.out.below | exact (ST.out.step (below_drew _)).below); rintro e w5 ⟨a5, rfl, hr5, hb5⟩; replace hb5 := below_undrew hb5; rw [← HN.out] at hr5; have R5 := Lib.hid hr5.row; replace ST := Lib.hid (ST.out.step hb5); clear c00 c01 c10 c11; have c00 := ST.out.p0; have c01 := ST.out.p1; have c10 := ST.out.q0; have c11 := ST.out.q1; rw [← HN.out]; clear hr5 hb5) | (go_at_call 200; (with_reducible refine Calls.mono (SY.out _ ?hv) ?_); (case hv => exact ST.out.below); rintro e w6 ⟨a6, rfl, hr6, hb6⟩; rw [← HM.out] at hr6; have R6 := Lib.hid hr6.row; replace R5 := Lib.hid ((R5.out.below hb6).mono hb6.size); replace ST := Lib.hid (ST.out.step hb6); clear c00 c01 c10 c11; have c00 := ST.out.p0; have c01 := ST.out.p1; have c10 := ST.out.q0; have c11 := ST.out.q1; rw [← HM.out]; clear hr6 hb6))
    obtain ⟨w7, hcp, hF⟩ := copy_made w6 w6.heap.size rfl a5 n (k + 1) x (by omega) hx0 HX.out R5.out (Nat.le_refl _)
    have hmk := HMK.out
    have HF := Lib.hid hF
    clear c00 c01 c10 c11 hF HMK
    go_wp2_with fail
    refine (addTo_any w6.heap.size 0 (k + 1) (k + 1) a6 m m x y w7 (by omega) (by omega) hx0 (Int.lt_of_lt_of_le HX.out (bp_mono (by omega))) hy0 HY.out HF.out.cells HF.out.free (R6.out.below HF.out.below).x).mono ?_
    rintro e w8 ⟨rfl, hC⟩
    have HF2 := Lib.hid (HF.out.wrote hC)
    clear hC hcp hmk
    go_wp2_with fail
    refine (trim_any _ (k + 1) (k + 1) (x + y) w8 (by omega) (sum_lt HX.out HY.out hk1 hk2) (by omega) (by omega) HF2.out.row).mono ?_
    rintro e w9 ⟨p9, v9, rfl, hv9, hb9⟩
    have FI := Lib.hid ((ST.out.step HF2.out.below).step hb9)
    have HV9 := Lib.hid hv9
    obtain ⟨t9, a9, n9, rfl, rfl, ht9, hn9, _, _, _, _⟩ := hv9.form
    have HT9 := Lib.hid ht9
    have HN9 := Lib.hid hn9
    clear hv9 hb9 ht9 hn9
    obtain ⟨_, _, _, _, _, _, ⟨r0, r1, r2, r3⟩⟩ := FI.out
    go_wp2
    exact bodyPost_ret (v := .agg #[.int .u64 t9, .slice a9 n9 n9]) (by simp [results, Tryz.results179, go_sem, r0, r1]) rfl (FI.out.fin HV9.out)
theorem sum_any (p v q u : Value) (x y : Int) (w : World) (hu : NatV w p v x) (hv : NatV w q u y) (hx : nl x ≤ 50000) (hy : nl y ≤ 50000) :
    Calls Tryz.prog 179 #[.agg #[p, v], .agg #[q, u]] w (GivesN (x + y) w) := by
  by_cases h1 : nl x ≤ 2 ∧ nl y ≤ 2
  · exact sum_words p v q u x y w hu hv h1.1 h1.2
  · exact sum_rows p v q u x y w hu hv hx hy (by omega)
end Go.Proofs.YtkhebidmfjbhaaaGreatDoor
namespace Go.Proofs.YtkhebidmfjbhaaaGreatDoor
open Go.RowKit

/-- The call hands back the integer z: its absolute value and its sign. -/
def GivesZ (z : Int) (w : World) (e : Ending) (w' : World) : Prop := ∃ p v, e = .returned (.agg #[p, v, .bool (decide (z < 0))]) ∧ NatV w' p v z.natAbs ∧ Below w.heap.size w w'
/-- The box r of the call's own: the empty integer that the result is written over. -/
structure Res (w : World) (r : Nat) : Prop where
  c0 : w.cell? ⟨r, 0, none⟩ = some (.int .u64 0)
  c1 : w.cell? ⟨r, 1, none⟩ = some (.slice none 0 0)
  c2 : w.cell? ⟨r, 2, none⟩ = some (.bool false)
  f0 : w.frozen? ⟨r, 0, none⟩ = false
  f1 : w.frozen? ⟨r, 1, none⟩ = false
  f2 : w.frozen? ⟨r, 2, none⟩ = false
theorem Res.new (w : World) (t : TypeId) (r : Nat) (hr : r = w.heap.size) : Res (w.alloc (.cells #[.int .u64 0, .slice none 0 0, .bool false] t)) r :=
  ⟨by rw [World.cell?_alloc_at _ _ _ _ hr]; rfl, by rw [World.cell?_alloc_at _ _ _ _ hr]; rfl, by rw [World.cell?_alloc_at _ _ _ _ hr]; rfl, by rw [World.frozen?_alloc_at _ _ _ _ hr], by rw [World.frozen?_alloc_at _ _ _ _ hr], by rw [World.frozen?_alloc_at _ _ _ _ hr]⟩
theorem Res.below {B : Nat} {w w' : World} {r : Nat} (h : Res w r) (hb : Below B w w') (hr : r < B) : Res w' r :=
  ⟨(below_at hb 0 hr).trans h.c0, (below_at hb 1 hr).trans h.c1, (below_at hb 2 hr).trans h.c2, (below_atF hb 0 hr).trans h.f0, (below_atF hb 1 hr).trans h.f1, (below_atF hb 2 hr).trans h.f2⟩
/-- Three stores into a box that holds an integer leave the numbers as they are. -/
theorem NatV.put3 {w : World} {p v : Value} {x : Int} (h : NatV w p v x) {r : Nat} {a : Option Addr} {n c : Nat} {b : Bool} (hq : w.cell? ⟨r, 1, none⟩ = some (.slice a n c)) (hb : w.cell? ⟨r, 2, none⟩ = some (.bool b)) (u s t : Value) : NatV (((w.setCell ⟨r, 0, none⟩ u).setCell ⟨r, 1, none⟩ s).setCell ⟨r, 2, none⟩ t) p v x :=
  (h.put hq u s).store (u0 := .bool b) (by rw [World.cell?_setCell_other _ _ _ _ (by intro e; injection e; omega), World.cell?_setCell_other _ _ _ _ (by intro e; injection e; omega)]; exact hb) (fun _ e => by cases e) t
/-- The cells of other blocks. -/
theorem far3 {w : World} {r k o : Nat} {a b c : Value} (h : k ≠ r) : (((w.setCell ⟨r, 0, none⟩ a).setCell ⟨r, 1, none⟩ b).setCell ⟨r, 2, none⟩ c).cell? ⟨k, o, none⟩ = w.cell? ⟨k, o, none⟩ := by
  rw [World.cell?_setCell_other _ _ _ _ (by intro e; injection e; omega), World.cell?_setCell_other _ _ _ _ (by intro e; injection e; omega), World.cell?_setCell_other _ _ _ _ (by intro e; injection e; omega)]
/-- The integer is written into its box. -/
theorem giveZ {w W : World} {r : Nat} {p v : Value} {s : Bool} {z : Int} (hb : Below w.heap.size w W) (hr : w.heap.size ≤ r) (h : Res W r) (hv : NatV W p v z.natAbs) (hs : s = decide (z < 0)) :
    GivesZ z w (.returned (.agg #[p, v, .bool s])) (((W.setCell ⟨r, 0, none⟩ p).setCell ⟨r, 1, none⟩ v).setCell ⟨r, 2, none⟩ (.bool s)) :=
  ⟨p, v, by rw [hs], hv.put3 h.c1 h.c2 _ _ _, below_set (below_set (below_set hb 0 hr _) 1 hr _) 2 hr _⟩

theorem giveZ' {w W : World} {p v : Value} {s : Bool} {z : Int} (hb : Below w.heap.size w W) (hv : NatV W p v z.natAbs) (hs : s = decide (z < 0)) : GivesZ z w (.returned (.agg #[p, v, .bool s])) W := ⟨p, v, by rw [hs], hv, hb⟩

theorem signed_no (p v : Value) (x : Int) (w : World) (hu : NatV w p v x) :
    Calls Tryz.prog 170 #[.agg #[p, v], .bool false] w (GivesZ x w) := by
  have hx0 := hu.1
  have HU := Lib.hid hu
  obtain ⟨t, a, n, rfl, rfl, ht, hn, _, _, _, _⟩ := hu.form
  have HT := Lib.hid ht
  have HN := Lib.hid hn
  clear hu hn ht
  go_enter Tryz.func170, Tryz.ntmps170
  go_wp2
  go_region_with fail
  all_goals
    go_wp2
    refine bodyPost_ret (v := .agg #[.int .u64 t, .slice a n n, .bool false]) (by simp [results, Tryz.results170, go_sem]) rfl (giveZ' ?_ ?_ (by simp; omega))
    · exact ((((Below.refl _ _).alloc (Nat.le_refl _) _).alloc (by simp) _)).drew
    · rw [show (x.natAbs : Int) = x by omega]; exact HU.out.below (((((Below.refl _ _).alloc (Nat.le_refl _) _).alloc (by simp) _)).drew)
theorem signed_yes0 (p v : Value) (w : World) (hu : NatV w p v 0) :
    Calls Tryz.prog 170 #[.agg #[p, v], .bool true] w (GivesZ 0 w) := by
  have HU := Lib.hid hu
  obtain ⟨t, a, n, rfl, rfl, ht, hn, _, _, _, _⟩ := hu.form
  have HT := Lib.hid ht
  have HN := Lib.hid hn
  clear hu hn ht
  go_enter Tryz.func170, Tryz.ntmps170
  go_wp2
  go_region_with (go_at_call 101; refine (isZero_any _ _ 0 _ (by exact HU.out.below ((((Below.refl _ _).alloc (Nat.le_refl _) _).alloc (by simp) _).drew))).mono ?_; rintro e w' ⟨rfl, rfl⟩; rw [decide_eq_true rfl])
  all_goals
    go_wp2
    refine bodyPost_ret (v := .agg #[.int .u64 t, .slice a n n, .bool false]) (by simp [results, Tryz.results170, go_sem]) rfl (giveZ' ?_ ?_ rfl)
    · exact (((((Below.refl _ _).alloc (Nat.le_refl _) _).alloc (by simp) _).alloc (by simp; omega) _).alloc (by simp; omega) _).drew
    · exact HU.out.below ((((((Below.refl _ _).alloc (Nat.le_refl _) _).alloc (by simp) _).alloc (by simp; omega) _).alloc (by simp; omega) _).drew)
set_option maxHeartbeats 800000 in
theorem signed_yes1 (p v : Value) (x : Int) (w : World) (hu : NatV w p v x) (hx : 0 < x) :
    Calls Tryz.prog 170 #[.agg #[p, v], .bool true] w (GivesZ (-x) w) := by
  have HU := Lib.hid hu
  obtain ⟨t, a, n, rfl, rfl, ht, hn, _, _, _, _⟩ := hu.form
  have HT := Lib.hid ht
  have HN := Lib.hid hn
  have hd := decide_eq_false (show ¬ x = 0 by omega)
  have HD := Lib.hid hd
  clear hu hn ht hd
  go_enter Tryz.func170, Tryz.ntmps170
  go_wp2
  go_region_with (go_at_call 101; refine (isZero_any _ _ x _ (by exact HU.out.below ((((Below.refl _ _).alloc (Nat.le_refl _) _).alloc (by simp) _).drew))).mono ?_; rintro e w' ⟨rfl, rfl⟩; rw [HD.out])
  all_goals
    go_wp2
    refine bodyPost_ret (v := .agg #[.int .u64 t, .slice a n n, .bool true]) (by simp [results, Tryz.results170, go_sem]) rfl (giveZ' ?_ ?_ (by simp; omega))
    · exact (((((Below.refl _ _).alloc (Nat.le_refl _) _).alloc (by simp) _).alloc (by simp; omega) _).alloc (by simp; omega) _).drew
    · rw [show ((-x).natAbs : Int) = x by omega]; exact HU.out.below ((((((Below.refl _ _).alloc (Nat.le_refl _) _).alloc (by simp) _).alloc (by simp; omega) _).alloc (by simp; omega) _).drew)
theorem signed_any (p v : Value) (b : Bool) (x : Int) (w : World) (hu : NatV w p v x) :
    Calls Tryz.prog 170 #[.agg #[p, v], .bool b] w (GivesZ (if b then -x else x) w) := by
  cases b with
  | false => exact signed_no p v x w hu
  | true =>
    rcases Int.lt_or_le 0 x with h | h
    · exact signed_yes1 p v x w hu h
    · obtain rfl : x = 0 := by have := hu.1; omega
      exact signed_yes0 p v w hu
theorem signed_true (p v : Value) (x : Int) (w : World) (hu : NatV w p v x) : Calls Tryz.prog 170 #[.agg #[p, v], .bool true] w (GivesZ (-x) w) := by have := signed_any p v true x w hu; rwa [if_pos rfl] at this
theorem signed_false (p v : Value) (x : Int) (w : World) (hu : NatV w p v x) : Calls Tryz.prog 170 #[.agg #[p, v], .bool false] w (GivesZ x w) := by have := signed_any p v false x w hu; rwa [if_neg (by decide)] at this
end Go.Proofs.YtkhebidmfjbhaaaGreatDoor
