/-
  The law WholeMatches answers true.
-/
import Derived.Test.YtphbfjcaehiboaaGreatDoorZr
import Derived.Test.YtphbfjcaehiboaaGreatDoorZz
namespace Go.Proofs.YtphbfjcaehiboaaGreatDoor
open Go.RowKit

/-- strconv's error of the range is there, and stays. -/
def VR (w : World) : Prop := ∀ W, Below w.heap.size w W → ∃ tp p, W.var? Tryz.prog "strconv.ErrRange" = some #[.iface tp p]
theorem VR.below {w w' : World} (h : VR w) (hb : Below w.heap.size w w') : VR w' := fun W hW => h W (hb.trans (hW.mono hb.size))
def Ok (s : ByteArray) : Prop := s.size ≤ 9223372036854775807
theorem cases2 (s t : ByteArray) : (∃ x y, s = tx x ∧ t = tx y ∧ dn x ≤ 1000 ∧ dn y ≤ 1000) ∨ (isT s.data.toList = false ∨ isT t.data.toList = false) := by
  rcases tx_or s with ⟨x, rfl, hx⟩ | h
  · rcases tx_or t with ⟨y, rfl, hy⟩ | h
    · exact .inl ⟨x, y, rfl, rfl, hx, hy⟩
    · exact .inr (.inr h)
  · exact .inr (.inl h)
theorem i64_pair (s : ByteArray) (hs : Ok s) : ∃ v b, (∀ W, VR W → Calls Tryz.prog 5 #[.string s] W (GivesJB v b W)) ∧ ∀ W, Calls Tryz.prog 6 #[.string s] W (GivesJB v b W) := by
  rcases tx_or s with ⟨z, rfl, hz⟩ | h
  · by_cases h1 : -9223372036854775808 ≤ z
    · by_cases h2 : z ≤ 9223372036854775807
      · exact ⟨z, true, fun W _ => Int64_tx z W h1 h2, fun W => RInt64_tx z W h1 h2⟩
      · refine ⟨0, false, fun W hv => ?_, fun W => RInt64_above z W hz (by omega)⟩
        obtain ⟨tp, p, hv⟩ := hv W (Below.refl _ _)
        exact Int64_out z W hz (by omega) tp p hv
    · refine ⟨0, false, fun W hv => ?_, fun W => RInt64_under z W hz (by omega)⟩
      obtain ⟨tp, p, hv⟩ := hv W (Below.refl _ _)
      exact Int64_out z W hz (by omega) tp p hv
  · exact ⟨0, false, fun W _ => Int64_bad s W hs h, fun W => RInt64_bad s W hs h⟩
theorem valid_pair (s : ByteArray) (hs : Ok s) : ∃ b, (∀ W, Calls Tryz.prog 7 #[.string s] W fun e w' => e = .returned (.bool b) ∧ W = w') ∧ ∀ W, Calls Tryz.prog 8 #[.string s] W fun e w' => e = .returned (.bool b) ∧ W = w' := by
  rcases tx_or s with ⟨z, rfl, hz⟩ | h
  · exact ⟨true, fun W => Valid_tx z W hz, fun W => Is_tx z W hz⟩
  · exact ⟨false, fun W => Valid_bad s W hs h, fun W => Is_bad s W hs h⟩
theorem sign_pair (s : ByteArray) (hs : Ok s) : ∃ v, (∀ W, Calls Tryz.prog 9 #[.string s] W fun e w' => e = .returned (.int .i64 v) ∧ W = w') ∧ ∀ W, Calls Tryz.prog 10 #[.string s] W (GivesI v W) := by
  rcases tx_or s with ⟨z, rfl, hz⟩ | h
  · exact ⟨sg z, fun W => Sign_tx z W hz, fun W => RSign_tx z W hz⟩
  · exact ⟨0, fun W => Sign_bad s W hs h, fun W => RSign_bad s W hs h⟩
theorem neg_pair (s : ByteArray) (hs : Ok s) : ∃ v, (∀ W, Calls Tryz.prog 13 #[.string s] W fun e w' => e = .returned (.string v) ∧ W = w') ∧ ∀ W, Calls Tryz.prog 14 #[.string s] W (GivesY v W) := by
  rcases tx_or s with ⟨z, rfl, hz⟩ | h
  · exact ⟨_, fun W => Neg_tx z W hz, fun W => RNeg_tx z W hz⟩
  · exact ⟨_, fun W => Neg_bad s W hs h, fun W => RNeg_bad s W hs h⟩
theorem abs_pair (s : ByteArray) (hs : Ok s) : ∃ v, (∀ W, Calls Tryz.prog 15 #[.string s] W fun e w' => e = .returned (.string v) ∧ W = w') ∧ ∀ W, Calls Tryz.prog 16 #[.string s] W (GivesY v W) := by
  rcases tx_or s with ⟨z, rfl, hz⟩ | h
  · exact ⟨_, fun W => Abs_tx z W hz, fun W => RAbs_tx z W hz⟩
  · exact ⟨_, fun W => Abs_bad s W hs h, fun W => RAbs_bad s W hs h⟩
theorem cmp_pair (s t : ByteArray) (hs : Ok s) (ht : Ok t) : ∃ v, (∀ W, Calls Tryz.prog 11 #[.string s, .string t] W (GivesI v W)) ∧ ∀ W, Calls Tryz.prog 12 #[.string s, .string t] W (GivesI v W) := by
  rcases cases2 s t with ⟨x, y, rfl, rfl, hx, hy⟩ | h
  · exact ⟨_, fun W => Cmp_tx x y W hx hy, fun W => RCmp_tx x y W hx hy⟩
  · refine ⟨0, fun W => ?_, fun W => RCmp_bad s t W hs ht h⟩
    rcases tx_or s with ⟨x, rfl, hx⟩ | h1
    · exact Cmp_bad2 x t W hx ht (by rcases h with h | h; rw [isT_tx hx] at h; cases h; exact h)
    · exact Cmp_bad1 s t W hs ht h1
theorem add_pair (s t : ByteArray) (hs : Ok s) (ht : Ok t) : ∃ X E, (∀ W, Tb W → Calls Tryz.prog 19 #[.string s, .string t] W (GivesE2 X E W)) ∧ ∀ W, Calls Tryz.prog 20 #[.string s, .string t] W (GivesE2 X E W) := by
  rcases cases2 s t with ⟨x, y, rfl, rfl, hx, hy⟩ | h
  · exact ⟨_, _, fun W tb => Add_tx x y W tb hx hy, fun W => RAdd_tx x y W hx hy⟩
  · exact ⟨_, _, fun W _ => Add_bad s t W hs ht h, fun W => RAdd_bad s t W hs ht h⟩
theorem sub_pair (s t : ByteArray) (hs : Ok s) (ht : Ok t) : ∃ X E, (∀ W, Tb W → Calls Tryz.prog 21 #[.string s, .string t] W (GivesE2 X E W)) ∧ ∀ W, Calls Tryz.prog 22 #[.string s, .string t] W (GivesE2 X E W) := by
  rcases cases2 s t with ⟨x, y, rfl, rfl, hx, hy⟩ | h
  · exact ⟨_, _, fun W tb => Sub_tx x y W tb hx hy, fun W => RSub_tx x y W hx hy⟩
  · exact ⟨_, _, fun W _ => Sub_bad s t W hs ht h, fun W => RSub_bad s t W hs ht h⟩
theorem mul_pair (s t : ByteArray) (hs : Ok s) (ht : Ok t) : ∃ X E, (∀ W, Tb W → Calls Tryz.prog 23 #[.string s, .string t] W (GivesE2 X E W)) ∧ ∀ W, Calls Tryz.prog 24 #[.string s, .string t] W (GivesE2 X E W) := by
  rcases cases2 s t with ⟨x, y, rfl, rfl, hx, hy⟩ | h
  · exact ⟨_, _, fun W tb => Mul_tx x y W tb hx hy, fun W => RMul_tx x y W hx hy⟩
  · exact ⟨_, _, fun W _ => Mul_bad s t W hs ht h, fun W => RMul_bad s t W hs ht h⟩
theorem divmod_pair (s t : ByteArray) (hs : Ok s) (ht : Ok t) : ∃ X Y E, (∀ W, Tb W → Calls Tryz.prog 25 #[.string s, .string t] W (GivesQr X Y E W)) ∧ ∀ W, Calls Tryz.prog 26 #[.string s, .string t] W (GivesQr X Y E W) := by
  rcases cases2 s t with ⟨x, y, rfl, rfl, hx, hy⟩ | h
  · by_cases h0 : y = 0
    · subst h0
      exact ⟨_, _, _, fun W _ => DivMod_zero x W hx, fun W => RDivMod_zero x W hx⟩
    · exact ⟨_, _, _, fun W tb => DivMod_tx x y W tb hx hy h0, fun W => RDivMod_tx x y W hx hy h0⟩
  · exact ⟨_, _, _, fun W _ => DivMod_bad s t W hs ht h, fun W => RDivMod_bad s t W hs ht h⟩
theorem gcd_dn2 {x y : Int} {k : Nat} (hx : dn x ≤ k) (hy : dn y ≤ k) : dn (Int.gcd x y : Int) ≤ k := by
  have h := gcd_le x y
  rcases Nat.le_total x.natAbs y.natAbs with c | c
  · exact Nat.le_trans (dnabs_le (x := (Int.gcd x y : Int)) (y := y) (by omega)) hy
  · exact Nat.le_trans (dnabs_le (x := (Int.gcd x y : Int)) (y := x) (by omega)) hx
theorem gcd_pair (s t : ByteArray) (hs : Ok s) (ht : Ok t) : ∃ X E, (∀ W, Tb W → Calls Tryz.prog 62 #[.string s, .string t] W (GivesE2 X E W)) ∧ ∀ W, Calls Tryz.prog 63 #[.string s, .string t] W (GivesE2 X E W) := by
  rcases cases2 s t with ⟨x, y, rfl, rfl, hx, hy⟩ | h
  · exact ⟨_, _, fun W tb => (Gcd_tx x y W tb hx hy).mono fun _ _ h => h.ok (gcd_dn2 hx hy), fun W => RGcd_tx x y W hx hy⟩
  · exact ⟨_, _, fun W _ => Gcd_bad s t W hs ht h, fun W => RGcd_bad s t W hs ht h⟩
theorem EI.ex {A B : Int} : ∀ (n : Nat) (r s x y : Int), r.toNat ≤ n → EI A B r s x y → ∃ t, B ∣ (Int.gcd A B : Int) - A * t
  | 0, r, s, x, y, hn, h => ⟨y, (h.done (by have := h.r0; omega)).2⟩
  | n + 1, r, s, x, y, hn, h => by
    by_cases hr : r = 0
    · exact ⟨y, (h.done hr).2⟩
    · have hr0 : 0 < r := by have := h.r0; omega
      have h2 := Int.emod_lt_of_pos s hr0
      have h3 := Int.emod_nonneg s hr
      exact EI.ex n _ _ _ _ (by omega) (h.next hr0)
theorem bez_ex {x y : Int} (h0 : y ≠ 0) : ∃ x' y', Bez x y x' y' := by
  obtain ⟨t, ht⟩ := EI.ex (A := x) (B := y.natAbs) _ _ _ _ _ (Nat.le_refl _) (EI.start (A := x) (B := y.natAbs) (by omega))
  have e : Int.gcd x (y.natAbs : Int) = Int.gcd x y := by unfold Int.gcd; simp
  rw [e] at ht
  obtain ⟨z0, z1, z2, _⟩ := bez h0 (Int.natAbs_dvd.1 ht)
  exact ⟨_, _, z0, z1, z2⟩
theorem bez_pair (s t : ByteArray) (hs : Ok s) (ht : Ok t) : ∃ X Y Z E, (∀ W, Tb W → Calls Tryz.prog 64 #[.string s, .string t] W (GivesQ4 X Y Z E W)) ∧ ∀ W, Calls Tryz.prog 65 #[.string s, .string t] W (GivesR4 X Y Z E W) := by
  rcases cases2 s t with ⟨x, y, rfl, rfl, hx, hy⟩ | h
  · by_cases h0 : y = 0
    · exact ⟨_, _, _, _, fun W tb => Bezout_zero x y W tb hx hy h0, fun W => RBezout_zero x y W hx hy h0⟩
    · obtain ⟨u, v, huv⟩ := bez_ex (x := x) h0
      refine ⟨tx (Int.gcd x y : Int), tx u, tx v, 0, fun W _ => (Bezout_tx x y W hx hy h0).mono ?_, fun W => (RBezout_tx x y W hx hy h0).mono ?_⟩
      · rintro e w' ⟨u', v', hb, hg⟩
        obtain ⟨rfl, rfl⟩ := bez_unique h0 hb huv
        exact hg
      · rintro e w' ⟨u', v', hb, hg⟩
        obtain ⟨rfl, rfl⟩ := bez_unique h0 hb huv
        exact hg
  · exact ⟨_, _, _, _, fun W _ => Bezout_bad s t W hs ht h, fun W => RBezout_bad s t W hs ht h⟩
theorem root_dn {z r : Int} (hz : 0 ≤ z) (hd : dn z ≤ 1000) (hr : IsRoot z r) : dn r ≤ 1000 := by
  obtain ⟨a1, a2, _⟩ := hr
  refine Nat.le_trans (dnabs_le (y := z) ?_) hd
  rcases Int.lt_or_le 0 r with c | c
  · have := Int.mul_le_mul_of_nonneg_left (show 1 ≤ r by omega) a1
    omega
  · omega
theorem root_pair (s : ByteArray) (hs : Ok s) : ∃ X E, (∀ W, Calls Tryz.prog 66 #[.string s] W (GivesE2 X E W)) ∧ ∀ W, Calls Tryz.prog 67 #[.string s] W (GivesE2 X E W) := by
  rcases tx_or s with ⟨z, rfl, hz⟩ | h
  · by_cases h0 : z < 0
    · exact ⟨_, _, fun W => Root_neg z W hz (decide_eq_true h0), fun W => RRoot_neg z W hz h0⟩
    · obtain ⟨r, hr⟩ := rroot_exI (show 0 ≤ z by omega)
      exact ⟨_, _, fun W => (Root_pos z W hz (decide_eq_false h0) r hr).mono fun _ _ h => h.ok (root_dn (by omega) hz hr), fun W => RRoot_pos z r W hz (by omega) hr⟩
  · exact ⟨_, _, fun W => Root_bad s W hs h, fun W => RRoot_bad s W hs h⟩
theorem div_f (s t : ByteArray) (w : World) (tb : Tb w) (hs : Ok s) (ht : Ok t) (ha : isT s.data.toList = false) :
    Calls Tryz.prog 27 #[.string s, .string t] w fun e w' => e = .returned (.bool true) ∧ Below w.heap.size w w' := by
  have B0 := Lib.hid (Below.refl w.heap.size w)
  have T0 := Lib.hid tb
  have IA := Lib.hid (fun W => Is_any s W hs)
  have IB := Lib.hid (fun W => Is_any t W ht)
  obtain ⟨X, E, g1, g2⟩ := gcd_pair s t hs ht
  obtain ⟨G, U, V, F, b1, b2⟩ := bez_pair s t hs ht
  obtain ⟨R, H, r1, r2⟩ := root_pair s hs
  have G1 := Lib.hid g1
  have G2 := Lib.hid g2
  have Z1 := Lib.hid b1
  have Z2 := Lib.hid b2
  have R1 := Lib.hid r1
  have R2 := Lib.hid r2
  have n1 : (X.toList != X.toList) = false := by simp
  have n2 : (G.toList != G.toList) = false := by simp
  have n3 : (U.toList != U.toList) = false := by simp
  have n4 : (V.toList != V.toList) = false := by simp
  have n5 : (E != E) = false := by simp
  have n6 : (F != F) = false := by simp
  have n7 : (R.toList == R.toList) = true := by simp
  have n8 : (H == H) = true := by simp
  have hs' : (s.size : Int) ≤ 9223372036854775807 := by unfold Ok at hs; omega
  have ht' : (t.size : Int) ≤ 9223372036854775807 := by unfold Ok at ht; omega
  rw [ha] at IA
  clear tb hs ht g1 g2 b1 b2 r1 r2 ha
  go_enter Tryz.func27, Tryz.ntmps27
  go_wp2_with fail
  (with_reducible refine Calls.mono (IA.out _) ?_)
  rintro e w' ⟨rfl, rfl⟩
  go_wp2_with fail
  (with_reducible refine Calls.mono (G1.out _ T0.out) ?_)
  rintro e w1 ⟨rfl, hb⟩
  have B1 := Lib.hid (B0.out.trans (hb.mono B0.out.size))
  have T1 := Lib.hid (T0.out.below hb)
  clear hb
  go_wp2_with fail
  (with_reducible refine Calls.mono (G2.out _) ?_)
  rintro e w2 ⟨rfl, hb⟩
  have B2 := Lib.hid (B1.out.trans (hb.mono B1.out.size))
  have T2 := Lib.hid (T1.out.below hb)
  clear hb
  go_wp2_with fail
  (with_reducible refine Calls.mono (Z1.out _ T2.out) ?_)
  rintro e w3 ⟨rfl, hb⟩
  have B3 := Lib.hid (B2.out.trans (hb.mono B2.out.size))
  have T3 := Lib.hid (T2.out.below hb)
  clear hb
  go_wp2_with fail
  (with_reducible refine Calls.mono (Z2.out _) ?_)
  rintro e w4 ⟨rfl, hb⟩
  have B4 := Lib.hid (B3.out.trans (hb.mono B3.out.size))
  have T4 := Lib.hid (T3.out.below hb)
  clear hb
  go_wp2_with fail
  (with_reducible refine Calls.mono (IA.out _) ?_)
  rintro e w' ⟨rfl, rfl⟩
  go_wp2_with fail
  (with_reducible refine Calls.mono (R1.out _) ?_)
  rintro e w5 ⟨rfl, hb⟩
  have B5 := Lib.hid (B4.out.trans (hb.mono B4.out.size))
  have T5 := Lib.hid (T4.out.below hb)
  clear hb
  go_wp2_with fail
  (with_reducible refine Calls.mono (R2.out _) ?_)
  rintro e w6 ⟨rfl, hb⟩
  have B6 := Lib.hid (B5.out.trans (hb.mono B5.out.size))
  have T6 := Lib.hid (T5.out.below hb)
  clear hb
  go_wp2
  go_ret
  exact ⟨rfl, B6.out⟩
theorem div_tf1 (s t : ByteArray) (w : World) (tb : Tb w) (hs : Ok s) (ht : Ok t) (ha : isT s.data.toList = true) (hb : isT t.data.toList = false) (hl : (100 : Int) < s.size) :
    Calls Tryz.prog 27 #[.string s, .string t] w fun e w' => e = .returned (.bool true) ∧ Below w.heap.size w w' := by
  have B0 := Lib.hid (Below.refl w.heap.size w)
  have T0 := Lib.hid tb
  have IA := Lib.hid (fun W => Is_any s W hs)
  have IB := Lib.hid (fun W => Is_any t W ht)
  obtain ⟨X, E, g1, g2⟩ := gcd_pair s t hs ht
  obtain ⟨G, U, V, F, b1, b2⟩ := bez_pair s t hs ht
  obtain ⟨R, H, r1, r2⟩ := root_pair s hs
  have G1 := Lib.hid g1
  have G2 := Lib.hid g2
  have Z1 := Lib.hid b1
  have Z2 := Lib.hid b2
  have R1 := Lib.hid r1
  have R2 := Lib.hid r2
  have n1 : (X.toList != X.toList) = false := by simp
  have n2 : (G.toList != G.toList) = false := by simp
  have n3 : (U.toList != U.toList) = false := by simp
  have n4 : (V.toList != V.toList) = false := by simp
  have n5 : (E != E) = false := by simp
  have n6 : (F != F) = false := by simp
  have n7 : (R.toList == R.toList) = true := by simp
  have n8 : (H == H) = true := by simp
  have hs' : (s.size : Int) ≤ 9223372036854775807 := by unfold Ok at hs; omega
  have ht' : (t.size : Int) ≤ 9223372036854775807 := by unfold Ok at ht; omega
  rw [ha] at IA
  rw [hb] at IB
  clear tb hs ht g1 g2 b1 b2 r1 r2 ha hb
  go_enter Tryz.func27, Tryz.ntmps27
  go_wp2_with fail
  (with_reducible refine Calls.mono (IA.out _) ?_)
  rintro e w' ⟨rfl, rfl⟩
  go_wp2_with fail
  (with_reducible refine Calls.mono (IB.out _) ?_)
  rintro e w' ⟨rfl, rfl⟩
  go_wp2_with fail
  (with_reducible refine Calls.mono (G1.out _ T0.out) ?_)
  rintro e w1 ⟨rfl, hb⟩
  have B1 := Lib.hid (B0.out.trans (hb.mono B0.out.size))
  have T1 := Lib.hid (T0.out.below hb)
  clear hb
  go_wp2_with fail
  (with_reducible refine Calls.mono (G2.out _) ?_)
  rintro e w2 ⟨rfl, hb⟩
  have B2 := Lib.hid (B1.out.trans (hb.mono B1.out.size))
  have T2 := Lib.hid (T1.out.below hb)
  clear hb
  go_wp2_with fail
  (with_reducible refine Calls.mono (Z1.out _ T2.out) ?_)
  rintro e w3 ⟨rfl, hb⟩
  have B3 := Lib.hid (B2.out.trans (hb.mono B2.out.size))
  have T3 := Lib.hid (T2.out.below hb)
  clear hb
  go_wp2_with fail
  (with_reducible refine Calls.mono (Z2.out _) ?_)
  rintro e w4 ⟨rfl, hb⟩
  have B4 := Lib.hid (B3.out.trans (hb.mono B3.out.size))
  have T4 := Lib.hid (T3.out.below hb)
  clear hb
  go_wp2_with fail
  (with_reducible refine Calls.mono (IA.out _) ?_)
  rintro e w' ⟨rfl, rfl⟩
  go_wp2
  go_ret
  exact ⟨rfl, B4.out⟩
theorem div_tf2 (s t : ByteArray) (w : World) (tb : Tb w) (hs : Ok s) (ht : Ok t) (ha : isT s.data.toList = true) (hb : isT t.data.toList = false) (hl : ¬ (100 : Int) < s.size) :
    Calls Tryz.prog 27 #[.string s, .string t] w fun e w' => e = .returned (.bool true) ∧ Below w.heap.size w w' := by
  have B0 := Lib.hid (Below.refl w.heap.size w)
  have T0 := Lib.hid tb
  have IA := Lib.hid (fun W => Is_any s W hs)
  have IB := Lib.hid (fun W => Is_any t W ht)
  obtain ⟨X, E, g1, g2⟩ := gcd_pair s t hs ht
  obtain ⟨G, U, V, F, b1, b2⟩ := bez_pair s t hs ht
  obtain ⟨R, H, r1, r2⟩ := root_pair s hs
  have G1 := Lib.hid g1
  have G2 := Lib.hid g2
  have Z1 := Lib.hid b1
  have Z2 := Lib.hid b2
  have R1 := Lib.hid r1
  have R2 := Lib.hid r2
  have n1 : (X.toList != X.toList) = false := by simp
  have n2 : (G.toList != G.toList) = false := by simp
  have n3 : (U.toList != U.toList) = false := by simp
  have n4 : (V.toList != V.toList) = false := by simp
  have n5 : (E != E) = false := by simp
  have n6 : (F != F) = false := by simp
  have n7 : (R.toList == R.toList) = true := by simp
  have n8 : (H == H) = true := by simp
  have hs' : (s.size : Int) ≤ 9223372036854775807 := by unfold Ok at hs; omega
  have ht' : (t.size : Int) ≤ 9223372036854775807 := by unfold Ok at ht; omega
  rw [ha] at IA
  rw [hb] at IB
  clear tb hs ht g1 g2 b1 b2 r1 r2 ha hb
  go_enter Tryz.func27, Tryz.ntmps27
  go_wp2_with fail
  (with_reducible refine Calls.mono (IA.out _) ?_)
  rintro e w' ⟨rfl, rfl⟩
  go_wp2_with fail
  (with_reducible refine Calls.mono (IB.out _) ?_)
  rintro e w' ⟨rfl, rfl⟩
  go_wp2_with fail
  (with_reducible refine Calls.mono (G1.out _ T0.out) ?_)
  rintro e w1 ⟨rfl, hb⟩
  have B1 := Lib.hid (B0.out.trans (hb.mono B0.out.size))
  have T1 := Lib.hid (T0.out.below hb)
  clear hb
  go_wp2_with fail
  (with_reducible refine Calls.mono (G2.out _) ?_)
  rintro e w2 ⟨rfl, hb⟩
  have B2 := Lib.hid (B1.out.trans (hb.mono B1.out.size))
  have T2 := Lib.hid (T1.out.below hb)
  clear hb
  go_wp2_with fail
  (with_reducible refine Calls.mono (Z1.out _ T2.out) ?_)
  rintro e w3 ⟨rfl, hb⟩
  have B3 := Lib.hid (B2.out.trans (hb.mono B2.out.size))
  have T3 := Lib.hid (T2.out.below hb)
  clear hb
  go_wp2_with fail
  (with_reducible refine Calls.mono (Z2.out _) ?_)
  rintro e w4 ⟨rfl, hb⟩
  have B4 := Lib.hid (B3.out.trans (hb.mono B3.out.size))
  have T4 := Lib.hid (T3.out.below hb)
  clear hb
  go_wp2_with fail
  (with_reducible refine Calls.mono (IA.out _) ?_)
  rintro e w' ⟨rfl, rfl⟩
  go_wp2_with fail
  (with_reducible refine Calls.mono (R1.out _) ?_)
  rintro e w5 ⟨rfl, hb⟩
  have B5 := Lib.hid (B4.out.trans (hb.mono B4.out.size))
  have T5 := Lib.hid (T4.out.below hb)
  clear hb
  go_wp2_with fail
  (with_reducible refine Calls.mono (R2.out _) ?_)
  rintro e w6 ⟨rfl, hb⟩
  have B6 := Lib.hid (B5.out.trans (hb.mono B5.out.size))
  have T6 := Lib.hid (T5.out.below hb)
  clear hb
  go_wp2
  go_ret
  exact ⟨rfl, B6.out⟩
theorem div_tt1 (s t : ByteArray) (w : World) (tb : Tb w) (hs : Ok s) (ht : Ok t) (ha : isT s.data.toList = true) (hb : isT t.data.toList = true) (hl : (100 : Int) < s.size) :
    Calls Tryz.prog 27 #[.string s, .string t] w fun e w' => e = .returned (.bool true) ∧ Below w.heap.size w w' := by
  have B0 := Lib.hid (Below.refl w.heap.size w)
  have T0 := Lib.hid tb
  have IA := Lib.hid (fun W => Is_any s W hs)
  have IB := Lib.hid (fun W => Is_any t W ht)
  obtain ⟨X, E, g1, g2⟩ := gcd_pair s t hs ht
  obtain ⟨G, U, V, F, b1, b2⟩ := bez_pair s t hs ht
  obtain ⟨R, H, r1, r2⟩ := root_pair s hs
  have G1 := Lib.hid g1
  have G2 := Lib.hid g2
  have Z1 := Lib.hid b1
  have Z2 := Lib.hid b2
  have R1 := Lib.hid r1
  have R2 := Lib.hid r2
  have n1 : (X.toList != X.toList) = false := by simp
  have n2 : (G.toList != G.toList) = false := by simp
  have n3 : (U.toList != U.toList) = false := by simp
  have n4 : (V.toList != V.toList) = false := by simp
  have n5 : (E != E) = false := by simp
  have n6 : (F != F) = false := by simp
  have n7 : (R.toList == R.toList) = true := by simp
  have n8 : (H == H) = true := by simp
  have hs' : (s.size : Int) ≤ 9223372036854775807 := by unfold Ok at hs; omega
  have ht' : (t.size : Int) ≤ 9223372036854775807 := by unfold Ok at ht; omega
  rw [ha] at IA
  rw [hb] at IB
  clear tb hs ht g1 g2 b1 b2 r1 r2 ha hb
  go_enter Tryz.func27, Tryz.ntmps27
  go_wp2_with fail
  (with_reducible refine Calls.mono (IA.out _) ?_)
  rintro e w' ⟨rfl, rfl⟩
  go_wp2_with fail
  (with_reducible refine Calls.mono (IB.out _) ?_)
  rintro e w' ⟨rfl, rfl⟩
  go_wp2
  go_ret
  exact ⟨rfl, B0.out⟩
theorem div_tt2 (s t : ByteArray) (w : World) (tb : Tb w) (hs : Ok s) (ht : Ok t) (ha : isT s.data.toList = true) (hb : isT t.data.toList = true) (hl : ¬ (100 : Int) < s.size) (hl2 : (100 : Int) < t.size) :
    Calls Tryz.prog 27 #[.string s, .string t] w fun e w' => e = .returned (.bool true) ∧ Below w.heap.size w w' := by
  have B0 := Lib.hid (Below.refl w.heap.size w)
  have T0 := Lib.hid tb
  have IA := Lib.hid (fun W => Is_any s W hs)
  have IB := Lib.hid (fun W => Is_any t W ht)
  obtain ⟨X, E, g1, g2⟩ := gcd_pair s t hs ht
  obtain ⟨G, U, V, F, b1, b2⟩ := bez_pair s t hs ht
  obtain ⟨R, H, r1, r2⟩ := root_pair s hs
  have G1 := Lib.hid g1
  have G2 := Lib.hid g2
  have Z1 := Lib.hid b1
  have Z2 := Lib.hid b2
  have R1 := Lib.hid r1
  have R2 := Lib.hid r2
  have n1 : (X.toList != X.toList) = false := by simp
  have n2 : (G.toList != G.toList) = false := by simp
  have n3 : (U.toList != U.toList) = false := by simp
  have n4 : (V.toList != V.toList) = false := by simp
  have n5 : (E != E) = false := by simp
  have n6 : (F != F) = false := by simp
  have n7 : (R.toList == R.toList) = true := by simp
  have n8 : (H == H) = true := by simp
  have hs' : (s.size : Int) ≤ 9223372036854775807 := by unfold Ok at hs; omega
  have ht' : (t.size : Int) ≤ 9223372036854775807 := by unfold Ok at ht; omega
  rw [ha] at IA
  rw [hb] at IB
  clear tb hs ht g1 g2 b1 b2 r1 r2 ha hb
  go_enter Tryz.func27, Tryz.ntmps27
  go_wp2_with fail
  (with_reducible refine Calls.mono (IA.out _) ?_)
  rintro e w' ⟨rfl, rfl⟩
  go_wp2_with fail
  (with_reducible refine Calls.mono (IB.out _) ?_)
  rintro e w' ⟨rfl, rfl⟩
  go_wp2
  go_ret
  exact ⟨rfl, B0.out⟩
theorem div_tt3 (s t : ByteArray) (w : World) (tb : Tb w) (hs : Ok s) (ht : Ok t) (ha : isT s.data.toList = true) (hb : isT t.data.toList = true) (hl : ¬ (100 : Int) < s.size) (hl2 : ¬ (100 : Int) < t.size) :
    Calls Tryz.prog 27 #[.string s, .string t] w fun e w' => e = .returned (.bool true) ∧ Below w.heap.size w w' := by
  have B0 := Lib.hid (Below.refl w.heap.size w)
  have T0 := Lib.hid tb
  have IA := Lib.hid (fun W => Is_any s W hs)
  have IB := Lib.hid (fun W => Is_any t W ht)
  obtain ⟨X, E, g1, g2⟩ := gcd_pair s t hs ht
  obtain ⟨G, U, V, F, b1, b2⟩ := bez_pair s t hs ht
  obtain ⟨R, H, r1, r2⟩ := root_pair s hs
  have G1 := Lib.hid g1
  have G2 := Lib.hid g2
  have Z1 := Lib.hid b1
  have Z2 := Lib.hid b2
  have R1 := Lib.hid r1
  have R2 := Lib.hid r2
  have n1 : (X.toList != X.toList) = false := by simp
  have n2 : (G.toList != G.toList) = false := by simp
  have n3 : (U.toList != U.toList) = false := by simp
  have n4 : (V.toList != V.toList) = false := by simp
  have n5 : (E != E) = false := by simp
  have n6 : (F != F) = false := by simp
  have n7 : (R.toList == R.toList) = true := by simp
  have n8 : (H == H) = true := by simp
  have hs' : (s.size : Int) ≤ 9223372036854775807 := by unfold Ok at hs; omega
  have ht' : (t.size : Int) ≤ 9223372036854775807 := by unfold Ok at ht; omega
  rw [ha] at IA
  rw [hb] at IB
  clear tb hs ht g1 g2 b1 b2 r1 r2 ha hb
  go_enter Tryz.func27, Tryz.ntmps27
  go_wp2_with fail
  (with_reducible refine Calls.mono (IA.out _) ?_)
  rintro e w' ⟨rfl, rfl⟩
  go_wp2_with fail
  (with_reducible refine Calls.mono (IB.out _) ?_)
  rintro e w' ⟨rfl, rfl⟩
  go_wp2_with fail
  (with_reducible refine Calls.mono (G1.out _ T0.out) ?_)
  rintro e w1 ⟨rfl, hb⟩
  have B1 := Lib.hid (B0.out.trans (hb.mono B0.out.size))
  have T1 := Lib.hid (T0.out.below hb)
  clear hb
  go_wp2_with fail
  (with_reducible refine Calls.mono (G2.out _) ?_)
  rintro e w2 ⟨rfl, hb⟩
  have B2 := Lib.hid (B1.out.trans (hb.mono B1.out.size))
  have T2 := Lib.hid (T1.out.below hb)
  clear hb
  go_wp2_with fail
  (with_reducible refine Calls.mono (Z1.out _ T2.out) ?_)
  rintro e w3 ⟨rfl, hb⟩
  have B3 := Lib.hid (B2.out.trans (hb.mono B2.out.size))
  have T3 := Lib.hid (T2.out.below hb)
  clear hb
  go_wp2_with fail
  (with_reducible refine Calls.mono (Z2.out _) ?_)
  rintro e w4 ⟨rfl, hb⟩
  have B4 := Lib.hid (B3.out.trans (hb.mono B3.out.size))
  have T4 := Lib.hid (T3.out.below hb)
  clear hb
  go_wp2_with fail
  (with_reducible refine Calls.mono (IA.out _) ?_)
  rintro e w' ⟨rfl, rfl⟩
  go_wp2_with fail
  (with_reducible refine Calls.mono (R1.out _) ?_)
  rintro e w5 ⟨rfl, hb⟩
  have B5 := Lib.hid (B4.out.trans (hb.mono B4.out.size))
  have T5 := Lib.hid (T4.out.below hb)
  clear hb
  go_wp2_with fail
  (with_reducible refine Calls.mono (R2.out _) ?_)
  rintro e w6 ⟨rfl, hb⟩
  have B6 := Lib.hid (B5.out.trans (hb.mono B5.out.size))
  have T6 := Lib.hid (T5.out.below hb)
  clear hb
  go_wp2
  go_ret
  exact ⟨rfl, B6.out⟩
theorem divisors_any (s t : ByteArray) (w : World) (tb : Tb w) (hs : Ok s) (ht : Ok t) :
    Calls Tryz.prog 27 #[.string s, .string t] w fun e w' => e = .returned (.bool true) ∧ Below w.heap.size w w' := by
  cases ha : isT s.data.toList
  · exact div_f s t w tb hs ht ha
  · cases hb : isT t.data.toList
    · by_cases hl : (100 : Int) < s.size
      · exact div_tf1 s t w tb hs ht ha hb hl
      · exact div_tf2 s t w tb hs ht ha hb hl
    · by_cases hl : (100 : Int) < s.size
      · exact div_tt1 s t w tb hs ht ha hb hl
      · by_cases hl2 : (100 : Int) < t.size
        · exact div_tt2 s t w tb hs ht ha hb hl hl2
        · exact div_tt3 s t w tb hs ht ha hb hl hl2
set_option maxHeartbeats 4000000 in
set_option maxRecDepth 100000 in
theorem matches_any (s t : ByteArray) (n : Int) (w : World) (tb : Tb w) (vr : VR w) (hs : Ok s) (ht : Ok t) (h1 : -9223372036854775808 ≤ n) (h2 : n ≤ 9223372036854775807) :
    Calls Tryz.prog 3 #[.string s, .string t, .int .i64 n] w fun e w' => e = .returned (.bool true) ∧ Below w.heap.size w w' := by
  have B0 := Lib.hid (Below.refl w.heap.size w)
  have T0 := Lib.hid tb
  have V0 := Lib.hid vr
  obtain ⟨v1, c1, p1, p2⟩ := i64_pair s hs
  obtain ⟨c2, p3, p4⟩ := valid_pair s hs
  obtain ⟨v2, p5, p6⟩ := sign_pair s hs
  obtain ⟨v3, p7, p8⟩ := cmp_pair s t hs ht
  obtain ⟨X1, p9, p10⟩ := neg_pair s hs
  obtain ⟨X2, p11, p12⟩ := abs_pair s hs
  obtain ⟨X3, E3, p13, p14⟩ := add_pair s t hs ht
  obtain ⟨X4, E4, p15, p16⟩ := sub_pair s t hs ht
  obtain ⟨X5, E5, p17, p18⟩ := mul_pair s t hs ht
  obtain ⟨X6, X7, E6, p19, p20⟩ := divmod_pair s t hs ht
  have OF := Lib.hid (fun W (tb : Tb W) => of_any n W tb h1 h2)
  have NU := Lib.hid (fun W => rnumber_any n W h1 h2)
  obtain ⟨X8, hX8⟩ : ∃ T, T = tx n := ⟨_, rfl⟩
  rw [← hX8] at OF NU
  have DV := Lib.hid (fun W tb => divisors_any s t W tb hs ht)
  have AW := Lib.hid (fun W (tb : Tb W) => awake_any W tb)
  have Q1 := Lib.hid p1
  have Q2 := Lib.hid p2
  have Q3 := Lib.hid p3
  have Q4 := Lib.hid p4
  have Q5 := Lib.hid p5
  have Q6 := Lib.hid p6
  have Q7 := Lib.hid p7
  have Q8 := Lib.hid p8
  have Q9 := Lib.hid p9
  have Q10 := Lib.hid p10
  have Q11 := Lib.hid p11
  have Q12 := Lib.hid p12
  have Q13 := Lib.hid p13
  have Q14 := Lib.hid p14
  have Q15 := Lib.hid p15
  have Q16 := Lib.hid p16
  have Q17 := Lib.hid p17
  have Q18 := Lib.hid p18
  have Q19 := Lib.hid p19
  have Q20 := Lib.hid p20
  have s1 : (X1.toList != X1.toList) = false := by simp
  have s2 : (X2.toList != X2.toList) = false := by simp
  have s3 : (X3.toList != X3.toList) = false := by simp
  have s4 : (X4.toList != X4.toList) = false := by simp
  have s5 : (X5.toList != X5.toList) = false := by simp
  have s8 : (X8.toList != X8.toList) = false := by simp
  have s6 : (X6.toList == X6.toList) = true := by simp
  have s7 : (X7.toList == X7.toList) = true := by simp
  have q3 : (E3 != E3) = false := by simp
  have q4 : (E4 != E4) = false := by simp
  have q5 : (E5 != E5) = false := by simp
  have q6 : (E6 == E6) = true := by simp
  have i1 : (v1 != v1) = false := by simp
  have i2 : (v2 != v2) = false := by simp
  have i3 : (v3 != v3) = false := by simp
  have k1 : (c1 != c1) = false := by simp
  have k2 : (c2 != c2) = false := by simp
  clear hs ht tb vr hX8 p1 p2 p3 p4 p5 p6 p7 p8 p9 p10 p11 p12 p13 p14 p15 p16 p17 p18 p19 p20
  go_enter Tryz.func3, Tryz.ntmps3
  go_wp2_with fail
  (with_reducible refine Calls.mono (Q1.out _ V0.out) ?_)
  rintro e w1 ⟨rfl, hb⟩
  have B1 := Lib.hid (B0.out.trans (hb.mono B0.out.size))
  have T1 := Lib.hid (T0.out.below hb)
  clear hb
  go_wp2_with fail
  (with_reducible refine Calls.mono (Q2.out _) ?_)
  rintro e w2 ⟨rfl, hb⟩
  have B2 := Lib.hid (B1.out.trans (hb.mono B1.out.size))
  have T2 := Lib.hid (T1.out.below hb)
  clear hb
  go_wp2_with fail
  (with_reducible refine Calls.mono (Q3.out _) ?_)
  rintro e w' ⟨rfl, rfl⟩
  go_wp2_with fail
  (with_reducible refine Calls.mono (Q4.out _) ?_)
  rintro e w' ⟨rfl, rfl⟩
  go_wp2_with fail
  (with_reducible refine Calls.mono (Q5.out _) ?_)
  rintro e w' ⟨rfl, rfl⟩
  go_wp2_with fail
  (with_reducible refine Calls.mono (Q6.out _) ?_)
  rintro e w3 ⟨rfl, hb⟩
  have B3 := Lib.hid (B2.out.trans (hb.mono B2.out.size))
  have T3 := Lib.hid (T2.out.below hb)
  clear hb
  go_wp2_with fail
  (with_reducible refine Calls.mono (Q7.out _) ?_)
  rintro e w4 ⟨rfl, hb⟩
  have B4 := Lib.hid (B3.out.trans (hb.mono B3.out.size))
  have T4 := Lib.hid (T3.out.below hb)
  clear hb
  go_wp2_with fail
  (with_reducible refine Calls.mono (Q8.out _) ?_)
  rintro e w5 ⟨rfl, hb⟩
  have B5 := Lib.hid (B4.out.trans (hb.mono B4.out.size))
  have T5 := Lib.hid (T4.out.below hb)
  clear hb
  go_wp2_with fail
  (with_reducible refine Calls.mono (Q9.out _) ?_)
  rintro e w' ⟨rfl, rfl⟩
  go_wp2_with fail
  (with_reducible refine Calls.mono (Q10.out _) ?_)
  rintro e w6 ⟨rfl, hb⟩
  have B6 := Lib.hid (B5.out.trans (hb.mono B5.out.size))
  have T6 := Lib.hid (T5.out.below hb)
  clear hb
  go_wp2_with fail
  (with_reducible refine Calls.mono (Q11.out _) ?_)
  rintro e w' ⟨rfl, rfl⟩
  go_wp2_with fail
  (with_reducible refine Calls.mono (Q12.out _) ?_)
  rintro e w7 ⟨rfl, hb⟩
  have B7 := Lib.hid (B6.out.trans (hb.mono B6.out.size))
  have T7 := Lib.hid (T6.out.below hb)
  clear hb
  go_wp2_with fail
  (with_reducible refine Calls.mono (OF.out _ T7.out) ?_)
  rintro e w8 ⟨rfl, hb⟩
  have B8 := Lib.hid (B7.out.trans (hb.mono B7.out.size))
  have T8 := Lib.hid (T7.out.below hb)
  clear hb
  go_wp2_with fail
  (with_reducible refine Calls.mono (NU.out _) ?_)
  rintro e w9 ⟨rfl, hb⟩
  have B9 := Lib.hid (B8.out.trans (hb.mono B8.out.size))
  have T9 := Lib.hid (T8.out.below hb)
  clear hb
  go_wp2_with fail
  (with_reducible refine Calls.mono (Q13.out _ T9.out) ?_)
  rintro e w10 ⟨rfl, hb⟩
  have B10 := Lib.hid (B9.out.trans (hb.mono B9.out.size))
  have T10 := Lib.hid (T9.out.below hb)
  clear hb
  go_wp2_with fail
  (with_reducible refine Calls.mono (Q14.out _) ?_)
  rintro e w11 ⟨rfl, hb⟩
  have B11 := Lib.hid (B10.out.trans (hb.mono B10.out.size))
  have T11 := Lib.hid (T10.out.below hb)
  clear hb
  go_wp2_with fail
  (with_reducible refine Calls.mono (Q15.out _ T11.out) ?_)
  rintro e w12 ⟨rfl, hb⟩
  have B12 := Lib.hid (B11.out.trans (hb.mono B11.out.size))
  have T12 := Lib.hid (T11.out.below hb)
  clear hb
  go_wp2_with fail
  (with_reducible refine Calls.mono (Q16.out _) ?_)
  rintro e w13 ⟨rfl, hb⟩
  have B13 := Lib.hid (B12.out.trans (hb.mono B12.out.size))
  have T13 := Lib.hid (T12.out.below hb)
  clear hb
  go_wp2_with fail
  (with_reducible refine Calls.mono (Q17.out _ T13.out) ?_)
  rintro e w14 ⟨rfl, hb⟩
  have B14 := Lib.hid (B13.out.trans (hb.mono B13.out.size))
  have T14 := Lib.hid (T13.out.below hb)
  clear hb
  go_wp2_with fail
  (with_reducible refine Calls.mono (Q18.out _) ?_)
  rintro e w15 ⟨rfl, hb⟩
  have B15 := Lib.hid (B14.out.trans (hb.mono B14.out.size))
  have T15 := Lib.hid (T14.out.below hb)
  clear hb
  go_wp2_with fail
  (with_reducible refine Calls.mono (Q19.out _ T15.out) ?_)
  rintro e w16 ⟨rfl, hb⟩
  have B16 := Lib.hid (B15.out.trans (hb.mono B15.out.size))
  have T16 := Lib.hid (T15.out.below hb)
  clear hb
  go_wp2_with fail
  (with_reducible refine Calls.mono (Q20.out _) ?_)
  rintro e w17 ⟨rfl, hb⟩
  have B17 := Lib.hid (B16.out.trans (hb.mono B16.out.size))
  have T17 := Lib.hid (T16.out.below hb)
  clear hb
  go_wp2_with fail
  (with_reducible refine Calls.mono (DV.out _ T17.out) ?_)
  rintro e w18 ⟨rfl, hb⟩
  have B18 := Lib.hid (B17.out.trans (hb.mono B17.out.size))
  have T18 := Lib.hid (T17.out.below hb)
  clear hb
  go_wp2_with fail
  (with_reducible refine Calls.mono (AW.out _ T18.out) ?_)
  rintro e w19 ⟨rfl, hb⟩
  have B19 := Lib.hid (B18.out.trans (hb.mono B18.out.size))
  have T19 := Lib.hid (T18.out.below hb)
  clear hb
  go_wp2
  go_ret
  exact ⟨rfl, B19.out⟩
end Go.Proofs.YtphbfjcaehiboaaGreatDoor
