/-
  The law WholePowersMatch answers true.
-/
import Derived.Test.YtphbfjcaehiboaaGreatDoorZy
import Derived.Test.YtphbfjcaehiboaaGreatDoorZr
namespace Go.Proofs.YtphbfjcaehiboaaGreatDoor
open Go.RowKit

theorem pow_pair (s : ByteArray) (n : Int) (hs : s.size ≤ 9223372036854775807) (hn : n ≤ 9223372036854775807) :
    ∃ X E, (∀ W, Calls Tryz.prog 29 #[.string s, .int .i64 n] W (GivesE2 X E W)) ∧ ∀ W, Calls Tryz.prog 30 #[.string s, .int .i64 n] W (GivesE2 X E W) := by
  rcases tx_or s with ⟨x, rfl, hx⟩ | hb
  · by_cases h0 : n < 0
    · exact ⟨⟨#[]⟩, 1, fun W => Pow_neg x n W hx h0, fun W => RPow_neg x n W hx h0⟩
    · obtain ⟨k, rfl⟩ : ∃ k : Nat, n = k := ⟨n.toNat, by omega⟩
      exact ⟨_, _, fun W => Pow_tx x k W hx (by omega), fun W => RPow_tx x k W hx (by omega)⟩
  · exact ⟨⟨#[]⟩, 1, fun W => Pow_bad s n W hs hb, fun W => RPow_bad s n W hs hb⟩
/-- The integers at the head of a list of texts. -/
theorem heads (S : Nat → ByteArray) (n : Nat) : ∃ (m : Nat) (Z : Nat → Int), m ≤ n ∧ (∀ j, j < m → S j = tx (Z j) ∧ dn (Z j) ≤ 1000) ∧ (m < n → isT (S m).data.toList = false) := by
  induction n with
  | zero => exact ⟨0, fun _ => 0, Nat.le_refl _, fun j hj => absurd hj (by omega), fun h => absurd h (by omega)⟩
  | succ n ih =>
    obtain ⟨m, Z, h1, h2, h3⟩ := ih
    by_cases hm : m < n
    · exact ⟨m, Z, by omega, h2, fun _ => h3 hm⟩
    · obtain rfl : m = n := by omega
      rcases tx_or (S m) with ⟨z, hz, hd⟩ | hb
      · refine ⟨m + 1, fun j => if j = m then z else Z j, Nat.le_refl _, fun j hj => ?_, fun h => absurd h (by omega)⟩
        by_cases e : j = m
        · subst e
          show S j = tx (if j = j then z else Z j) ∧ dn (if j = j then z else Z j) ≤ 1000
          rw [if_pos rfl]
          exact ⟨hz, hd⟩
        · show S j = tx (if j = m then z else Z j) ∧ dn (if j = m then z else Z j) ≤ 1000
          rw [if_neg e]
          exact h2 j (by omega)
      · exact ⟨m, Z, by omega, h2, fun _ => hb⟩
theorem sum_pair (n : Nat) (S : Nat → ByteArray) (hn : n ≤ 1000) (hS : ∀ j, j < n → (S j).size ≤ 9223372036854775807) :
    ∃ X E, ∀ W a c, n ≤ c → Strs W W.heap.size a n S → Calls Tryz.prog 32 #[.slice a n c] W (GivesE2 X E W) ∧ Calls Tryz.prog 33 #[.slice a n c] W (GivesE2 X E W) := by
  obtain ⟨m, Z, h1, h2, h3⟩ := heads S n
  by_cases hm : m < n
  · exact ⟨⟨#[]⟩, 1, fun W a c hc hs => ⟨(Sum_any a n c m S Z W hc hn h1 hs h2 (fun h => ⟨hS m h, h3 h⟩)).mono (fun _ _ h => h.2 hm), (RSum_any a n c m S Z W hn h1 hs h2 (fun h => ⟨hS m h, h3 h⟩)).mono (fun _ _ h => h.2 hm)⟩⟩
  · have e : m = n := by omega
    exact ⟨_, _, fun W a c hc hs => ⟨(Sum_any a n c m S Z W hc hn h1 hs h2 (fun h => ⟨hS m h, h3 h⟩)).mono (fun _ _ h => h.1 e), (RSum_any a n c m S Z W hn h1 hs h2 (fun h => ⟨hS m h, h3 h⟩)).mono (fun _ _ h => h.1 e)⟩⟩
set_option maxHeartbeats 1000000 in
set_option maxRecDepth 100000 in
theorem powersMatch_any (s : ByteArray) (n : Int) (a : Option Addr) (k c : Nat) (S : Nat → ByteArray) (w : World) (tb : Tb w) (hs : s.size ≤ 9223372036854775807) (hn : n ≤ 9223372036854775807) (hkb : (k : Int) ≤ 9223372036854775807)
    (hkc : k ≤ c) (hst : k ≤ 30 → Strs w w.heap.size a k S ∧ ∀ j, j < k → (S j).size ≤ 9223372036854775807) (hnil : a = none → k = 0 ∧ c = 0) :
    Calls Tryz.prog 4 #[.string s, .int .i64 n, .slice a k c] w fun e w' => e = .returned (.bool true) ∧ Below w.heap.size w w' := by
  obtain ⟨X, E, p1, p2⟩ := pow_pair s n hs hn
  have P1 := Lib.hid p1
  have P2 := Lib.hid p2
  have e1 : (X.toList != X.toList) = false := by simp
  have e2 : (E != E) = false := by simp
  have B0 := Lib.hid (Below.refl w.heap.size w)
  have T0 := Lib.hid tb
  have AW := Lib.hid (fun W (tb : Tb W) => awake_any W tb)
  clear p1 p2 hs hn tb
  by_cases hk : k ≤ 30
  · obtain ⟨hs1, hs2⟩ := hst hk
    obtain ⟨Y, F, q⟩ := sum_pair k S (by omega) hs2
    have Q := Lib.hid q
    have CP := Lib.hid (fun W (h : Strs W W.heap.size a k S) => Copy_all a k c S W (by omega) h hnil)
    have SM := Lib.hid (fun W a1 b1 c1 d1 (h1 : Strs W W.heap.size a1 k S) (h2 : Strs W W.heap.size b1 k S) => Same_all a1 b1 k c1 d1 _ _ S W (by omega) h1 h2)
    have HS := Lib.hid hs1
    have e3 : (Y.toList == Y.toList) = true := by simp
    have e4 : (F == F) = true := by simp
    have hk3 : ¬ (30 : Int) < k := by omega
    have HKC := Lib.hid hkc
    clear hs1 hs2 q hst hnil hkc
    go_enter Tryz.func4, Tryz.ntmps4
    go_wp2_with fail
    (with_reducible refine Calls.mono (P1.out _) ?_)
    rintro e w1 ⟨rfl, hb⟩
    have B1 := Lib.hid (B0.out.trans (hb.mono B0.out.size))
    have T1 := Lib.hid (T0.out.below hb)
    have S1 := Lib.hid (HS.out.below hb)
    clear hb
    go_wp2_with fail
    (with_reducible refine Calls.mono (P2.out _) ?_)
    rintro e w2 ⟨rfl, hb⟩
    have B2 := Lib.hid (B1.out.trans (hb.mono B1.out.size))
    have T2 := Lib.hid (T1.out.below hb)
    have S2 := Lib.hid (S1.out.below hb)
    clear hb
    go_wp2_with fail
    (with_reducible refine Calls.mono (CP.out _ S2.out) ?_)
    rintro e w3 ⟨a3, c3, rfl, hc3, hs3, hb⟩
    have B3 := Lib.hid (B2.out.trans (hb.mono B2.out.size))
    have T3 := Lib.hid (T2.out.below hb)
    have S3 := Lib.hid (S2.out.below hb)
    have R3 := Lib.hid hs3
    have HC3 := Lib.hid hc3
    clear hb hs3 hc3
    go_wp2_with fail
    (with_reducible refine Calls.mono (Q.out _ _ _ HC3.out R3.out).1 ?_)
    rintro e w4 ⟨rfl, hb⟩
    have B4 := Lib.hid (B3.out.trans (hb.mono B3.out.size))
    have T4 := Lib.hid (T3.out.below hb)
    have S4 := Lib.hid (S3.out.below hb)
    have R4 := Lib.hid (R3.out.below hb)
    clear hb
    go_wp2_with fail
    (with_reducible refine Calls.mono (Q.out _ _ _ HKC.out S4.out).2 ?_)
    rintro e w5 ⟨rfl, hb⟩
    have B5 := Lib.hid (B4.out.trans (hb.mono B4.out.size))
    have T5 := Lib.hid (T4.out.below hb)
    have S5 := Lib.hid (S4.out.below hb)
    have R5 := Lib.hid (R4.out.below hb)
    clear hb
    go_wp2_with fail
    (with_reducible refine Calls.mono (SM.out _ _ _ _ _ R5.out S5.out) ?_)
    rintro e w6 ⟨rfl, d, rfl⟩
    have hb6 : Below w5.heap.size w5 (w5.drewN d) := below_drewN (Below.refl w5.heap.size w5) d
    have T6 := Lib.hid (T5.out.below hb6)
    have B6 := Lib.hid (B5.out.trans (hb6.mono B5.out.size))
    clear hb6
    go_wp2_with fail
    (with_reducible refine Calls.mono (AW.out _ T6.out) ?_)
    rintro e w7 ⟨rfl, hb⟩
    have B7 := Lib.hid (B6.out.trans (hb.mono B6.out.size))
    clear hb
    go_wp2
    go_ret
    exact ⟨rfl, B7.out⟩
  · have hk3 : (30 : Int) < k := by omega
    clear hst hnil hkc hk
    go_enter Tryz.func4, Tryz.ntmps4
    go_wp2_with fail
    (with_reducible refine Calls.mono (P1.out _) ?_)
    rintro e w1 ⟨rfl, hb⟩
    have B1 := Lib.hid (B0.out.trans (hb.mono B0.out.size))
    have T1 := Lib.hid (T0.out.below hb)
    clear hb
    go_wp2_with fail
    (with_reducible refine Calls.mono (P2.out _) ?_)
    rintro e w2 ⟨rfl, hb⟩
    have B2 := Lib.hid (B1.out.trans (hb.mono B1.out.size))
    have T2 := Lib.hid (T1.out.below hb)
    clear hb
    go_wp2_with fail
    (with_reducible refine Calls.mono (AW.out _ T2.out) ?_)
    rintro e w3 ⟨rfl, hb⟩
    have B3 := Lib.hid (B2.out.trans (hb.mono B2.out.size))
    clear hb
    go_wp2
    go_ret
    exact ⟨rfl, B3.out⟩
end Go.Proofs.YtphbfjcaehiboaaGreatDoor
