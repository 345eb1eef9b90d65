/-
  What the reference's Divisor, Gcd and DivMod return.
  What the reference's Gcd and DivMod return.
  The arithmetic of the reference's Divisor, Bezout and Root.
  What the reference's Bezout returns.
  What the reference's Root returns.
  What whole.Int64 returns.
  What the reference's Int64 returns.
-/
import Derived.Test.YtphbfjcaehiboaaGreatDoorZx
import Derived.Test.YtphbfjcaehiboaaGreatDoorZv
import Derived.Test.YtphbfjcaehiboaaGreatDoorZb
import Derived.Deep.LoopGhost
import Derived.Test.YtphbfjcaehiboaaGreatDoorZn
import Derived.Test.YtphbfjcaehiboaaGreatDoorZr
import Derived.Test.YtphbfjcaehiboaaGreatDoorZy
import Derived.Test.YtphbfjcaehiboaaGreatDoorZm
import Derived.Lib.ParseIntB
import Derived.Lib.AtoiErrMem
namespace Go.Proofs.YtphbfjcaehiboaaGreatDoor
open Go.RowKit

/-- What holds at the head of Euclid's loop. -/
structure ER (x y u v : Int) (gk : Nat) : Prop where
  u0 : 0 ≤ u
  v0 : 0 ≤ v
  gcd : (Int.gcd u v : Int) = Int.gcd x y
  du : dn u ≤ 40000
  dv : dn v ≤ 40000
  gk : v.toNat ≤ gk
theorem ER.next {x y u v : Int} {gk : Nat} (h : ER x y u v gk) (hv : v ≠ 0) : ER x y v (u.fmod v) (u.fmod v).toNat ∧ (u.fmod v).toNat < gk := by
  have h1 := h.v0
  have e : u.fmod v = u % v := Int.fmod_eq_emod_of_nonneg _ h.v0
  have h2 : 0 ≤ u % v := Int.emod_nonneg _ hv
  have h3 : u % v < v := Int.emod_lt_of_pos _ (by omega)
  have h4 := h.gk
  rw [e]
  exact ⟨⟨h.v0, h2, by rw [gcd_emod]; exact h.gcd, h.dv, Nat.le_trans (dnabs_le (by omega)) h.dv, Nat.le_refl _⟩, by omega⟩
set_option maxHeartbeats 1000000 in
theorem rdivisor_any (x y : Int) (w : World) (hx : dn x ≤ 40000) (hy : dn y ≤ 40000) :
    Calls Tryz.prog 97 #[.string (tx x), .string (tx y)] w (GivesY (tx (Int.gcd x y : Int)) w) := by
  have PX := Lib.hid (fun W => rpos_any x W (by omega))
  have PY := Lib.hid (fun W => rpos_any y W (by omega))
  have E0 : Hid (ER x y x.natAbs y.natAbs y.natAbs) := Lib.hid ⟨by omega, by omega, by unfold Int.gcd; simp, by rw [dn_abs]; exact hx, by rw [dn_abs]; exact hy, by omega⟩
  obtain ⟨A, hA⟩ : ∃ T, T = tx x := ⟨_, rfl⟩
  obtain ⟨B, hB⟩ : ∃ T, T = tx y := ⟨_, rfl⟩
  obtain ⟨U, hU⟩ : ∃ T, T = tx (x.natAbs : Int) := ⟨_, rfl⟩
  obtain ⟨V, hV⟩ : ∃ T, T = tx (y.natAbs : Int) := ⟨_, rfl⟩
  rw [← hA, ← hU] at PX
  rw [← hB, ← hV] at PY
  rw [← hA, ← hB]
  have HU := Lib.hid hU
  have HV := Lib.hid hV
  clear hA hB hU hV hx hy
  go_enter Tryz.func97, Tryz.ntmps97
  go_wp2_with fail
  (with_reducible refine Calls.mono (PX.out _) ?_)
  rintro e w1 ⟨rfl, hb⟩
  have B1 := Lib.hid hb
  clear hb
  go_wp2_with fail
  (with_reducible refine Calls.mono (PY.out _) ?_)
  rintro e w2 ⟨rfl, hb⟩
  have B2 := Lib.hid (B1.out.trans (hb.mono B1.out.size))
  clear hb
  go_wp2_with fail
  go_loopg [5, 6] y.natAbs (fun gk vu vv wr => ∃ (u v : Int) (U V : ByteArray), vu = .string U ∧ vv = .string V ∧ Hid (U = tx u) ∧ Hid (V = tx v) ∧ Hid (ER x y u v gk) ∧ Below w.heap.size w wr)
  case atStart => exact ⟨_, _, U, V, rfl, rfl, HU, HV, E0, B2.out⟩
  case round =>
    clear HU HV E0 B1 B2
    obtain ⟨u, v, U', V', rfl, rfl, HU, HV, HE, hb⟩ := hrel
    have BE := Lib.hid hb
    have hzt := tx_zero_test v
    rw [← HV.out] at hzt
    clear hb
    by_cases hv : v = 0
    · rw [decide_eq_true hv] at hzt
      have hzn : (V'.toList != [48]) = false := by unfold bne; rw [hzt]; rfl
      have hr : U' = tx (Int.gcd x y : Int) := by
        have h1 := HE.out.gcd
        have h2 := HE.out.u0
        rw [hv, Int.gcd_zero_right] at h1
        rw [HU.out, ← h1]
        congr 1
        omega
      have HR := Lib.hid hr
      clear hv hr
      go_wp2
      go_ret
      exact ⟨ret_s HR.out, BE.out⟩
    · rw [decide_eq_false hv] at hzt
      have hzn : (V'.toList != [48]) = true := by unfold bne; rw [hzt]; rfl
      have QU := Lib.hid (fun W => rquo_any u v W HE.out.du HE.out.dv hv)
      rw [← HU.out, ← HV.out] at QU
      have HN := Lib.hid (HE.out.next hv)
      obtain ⟨Q, hQ⟩ : ∃ T, T = tx (u.fdiv v) := ⟨_, rfl⟩
      obtain ⟨R, hR⟩ : ∃ T, T = tx (u.fmod v) := ⟨_, rfl⟩
      rw [← hQ, ← hR] at QU
      have HR := Lib.hid hR
      clear hv hQ hR
      go_wp2_with fail
      (with_reducible refine Calls.mono (QU.out _) ?_)
      rintro e w3 ⟨rfl, hb⟩
      have B3 := Lib.hid (BE.out.trans (hb.mono BE.out.size))
      clear hb
      go_wp2
      go_roundg (u.fmod v).toNat
      case measure => exact HN.out.2
      case rel => exact ⟨v, u.fmod v, _, _, rfl, rfl, HV, HR, Lib.hid HN.out.1, B3.out⟩
end Go.Proofs.YtphbfjcaehiboaaGreatDoor
namespace Go.Proofs.YtphbfjcaehiboaaGreatDoor
open Go.RowKit

theorem RGcd_tx (x y : Int) (w : World) (hx : dn x ≤ 1000) (hy : dn y ≤ 1000) :
    Calls Tryz.prog 63 #[.string (tx x), .string (tx y)] w (fun e w' => e = .returned (.tuple #[.string (tx (Int.gcd x y : Int)), .int .i64 0]) ∧ Below w.heap.size w w') := by
  have IX := Lib.hid (fun W => Is_tx x W hx)
  have IY := Lib.hid (fun W => Is_tx y W hy)
  have OP := Lib.hid (fun W => rdivisor_any x y W (by omega) (by omega))
  obtain ⟨A, hA⟩ : ∃ T, T = tx x := ⟨_, rfl⟩
  obtain ⟨B, hB⟩ : ∃ T, T = tx y := ⟨_, rfl⟩
  obtain ⟨C, hC⟩ : ∃ T, T = tx (Int.gcd x y : Int) := ⟨_, rfl⟩
  rw [← hA] at IX OP ⊢
  rw [← hB] at IY OP ⊢
  rw [← hC] at OP ⊢
  clear hA hB hC hx hy
  go_enter Tryz.func63, Tryz.ntmps63
  go_wp2_with fail
  (with_reducible refine Calls.mono (IX.out _) ?_)
  rintro e w' ⟨rfl, rfl⟩
  go_wp2_with fail
  (with_reducible refine Calls.mono (IY.out _) ?_)
  rintro e w' ⟨rfl, rfl⟩
  go_wp2_with fail
  (with_reducible refine Calls.mono (OP.out _) ?_)
  rintro e w1 ⟨rfl, hb⟩
  have B1 := Lib.hid hb
  clear hb
  go_wp2
  go_ret2
  exact ⟨rfl, B1.out⟩
theorem fdiv_dn {x y : Int} (h0 : y ≠ 0) (hx : dn x ≤ 1000) : dn (x.fdiv y) ≤ 1000 := Nat.le_trans (dn_abs_le (fdiv_abs h0)) hx
theorem RDivMod_tx (x y : Int) (w : World) (hx : dn x ≤ 1000) (hy : dn y ≤ 1000) (h0 : y ≠ 0) :
    Calls Tryz.prog 26 #[.string (tx x), .string (tx y)] w (GivesQr (tx (x.fdiv y)) (tx (x.fmod y)) 0 w) := by
  have IX := Lib.hid (fun W => Is_tx x W hx)
  have IY := Lib.hid (fun W => Is_tx y W hy)
  have OP := Lib.hid (fun W => rquo_any x y W (by omega) (by omega) h0)
  have hdd := fdiv_dn h0 hx
  have LO := Lib.hid (fun W => rLong_any (x.fdiv y) W (by omega))
  rw [decide_eq_false (by omega)] at LO
  have hzt := tx_zero_test y
  rw [decide_eq_false h0] at hzt
  obtain ⟨A, hA⟩ : ∃ T, T = tx x := ⟨_, rfl⟩
  obtain ⟨B, hB⟩ : ∃ T, T = tx y := ⟨_, rfl⟩
  obtain ⟨C, hC⟩ : ∃ T, T = tx (x.fdiv y) := ⟨_, rfl⟩
  obtain ⟨D, hD⟩ : ∃ T, T = tx (x.fmod y) := ⟨_, rfl⟩
  rw [← hA] at IX OP ⊢
  rw [← hB] at IY OP hzt ⊢
  rw [← hC] at OP LO ⊢
  rw [← hD] at OP ⊢
  clear hA hB hC hD hx hy hdd h0
  go_enter Tryz.func26, Tryz.ntmps26
  go_wp2_with fail
  (with_reducible refine Calls.mono (IX.out _) ?_)
  rintro e w' ⟨rfl, rfl⟩
  go_wp2_with fail
  (with_reducible refine Calls.mono (IY.out _) ?_)
  rintro e w' ⟨rfl, rfl⟩
  go_wp2_with fail
  (with_reducible refine Calls.mono (OP.out _) ?_)
  rintro e w1 ⟨rfl, hb⟩
  have B1 := Lib.hid hb
  clear hb
  go_wp2_with fail
  (with_reducible refine Calls.mono (LO.out _) ?_)
  rintro e w' ⟨rfl, rfl⟩
  go_wp2
  go_ret3
  exact ⟨rfl, B1.out⟩
theorem RDivMod_zero (x : Int) (w : World) (hx : dn x ≤ 1000) :
    Calls Tryz.prog 26 #[.string (tx x), .string (tx 0)] w (GivesQr ⟨#[]⟩ ⟨#[]⟩ 9 w) := by
  have IX := Lib.hid (fun W => Is_tx x W hx)
  have IY := Lib.hid (fun W => Is_tx 0 W (by rw [dn_zero]; omega))
  have hzt := tx_zero_test 0
  rw [decide_eq_true rfl] at hzt
  have B0 := Lib.hid (Below.refl w.heap.size w)
  obtain ⟨A, hA⟩ : ∃ T, T = tx x := ⟨_, rfl⟩
  obtain ⟨B, hB⟩ : ∃ T, T = tx 0 := ⟨_, rfl⟩
  rw [← hA] at IX ⊢
  rw [← hB] at IY hzt ⊢
  clear hA hB hx
  go_enter Tryz.func26, Tryz.ntmps26
  go_wp2_with fail
  (with_reducible refine Calls.mono (IX.out _) ?_)
  rintro e w' ⟨rfl, rfl⟩
  go_wp2_with fail
  (with_reducible refine Calls.mono (IY.out _) ?_)
  rintro e w' ⟨rfl, rfl⟩
  go_wp2
  go_ret3
  exact ⟨rfl, B0.out⟩
theorem RGcd_bad (s t : ByteArray) (w : World) (hs : s.size ≤ 9223372036854775807) (ht : t.size ≤ 9223372036854775807) (h : isT s.data.toList = false ∨ isT t.data.toList = false) :
    Calls Tryz.prog 63 #[.string s, .string t] w (GivesEr 1 w) := by
  have IS := Lib.hid (fun W => Is_any s W hs)
  have IT := Lib.hid (fun W => Is_any t W ht)
  have B0 := Lib.hid (Below.refl w.heap.size w)
  cases es : isT s.data.toList
  · rw [es] at IS
    clear h es
    go_enter Tryz.func63, Tryz.ntmps63
    go_wp2_with fail
    (with_reducible refine Calls.mono (IS.out _) ?_)
    rintro e w' ⟨rfl, rfl⟩
    go_wp2
    go_ret2
    exact ⟨rfl, B0.out⟩
  · rw [es] at IS h
    have et : isT t.data.toList = false := by simpa using h
    rw [et] at IT
    clear h es et
    go_enter Tryz.func63, Tryz.ntmps63
    go_wp2_with fail
    (with_reducible refine Calls.mono (IS.out _) ?_)
    rintro e w' ⟨rfl, rfl⟩
    go_wp2_with fail
    (with_reducible refine Calls.mono (IT.out _) ?_)
    rintro e w' ⟨rfl, rfl⟩
    go_wp2
    go_ret2
    exact ⟨rfl, B0.out⟩
theorem RDivMod_bad (s t : ByteArray) (w : World) (hs : s.size ≤ 9223372036854775807) (ht : t.size ≤ 9223372036854775807) (h : isT s.data.toList = false ∨ isT t.data.toList = false) :
    Calls Tryz.prog 26 #[.string s, .string t] w (GivesQr ⟨#[]⟩ ⟨#[]⟩ 1 w) := by
  have IS := Lib.hid (fun W => Is_any s W hs)
  have IT := Lib.hid (fun W => Is_any t W ht)
  have B0 := Lib.hid (Below.refl w.heap.size w)
  cases es : isT s.data.toList
  · rw [es] at IS
    clear h es
    go_enter Tryz.func26, Tryz.ntmps26
    go_wp2_with fail
    (with_reducible refine Calls.mono (IS.out _) ?_)
    rintro e w' ⟨rfl, rfl⟩
    go_wp2
    go_ret3
    exact ⟨rfl, B0.out⟩
  · rw [es] at IS h
    have et : isT t.data.toList = false := by simpa using h
    rw [et] at IT
    clear h es et
    go_enter Tryz.func26, Tryz.ntmps26
    go_wp2_with fail
    (with_reducible refine Calls.mono (IS.out _) ?_)
    rintro e w' ⟨rfl, rfl⟩
    go_wp2_with fail
    (with_reducible refine Calls.mono (IT.out _) ?_)
    rintro e w' ⟨rfl, rfl⟩
    go_wp2
    go_ret3
    exact ⟨rfl, B0.out⟩
def GivesR4 (g s t : ByteArray) (n : Int) (w : World) (e : Ending) (w' : World) : Prop := e = .returned (.tuple #[.string g, .string s, .string t, .int .i64 n]) ∧ Below w.heap.size w w'
theorem RBezout_bad (s t : ByteArray) (w : World) (hs : s.size ≤ 9223372036854775807) (ht : t.size ≤ 9223372036854775807) (h : isT s.data.toList = false ∨ isT t.data.toList = false) :
    Calls Tryz.prog 65 #[.string s, .string t] w (GivesR4 ⟨#[]⟩ ⟨#[]⟩ ⟨#[]⟩ 1 w) := by
  have IS := Lib.hid (fun W => Is_any s W hs)
  have IT := Lib.hid (fun W => Is_any t W ht)
  have B0 := Lib.hid (Below.refl w.heap.size w)
  cases es : isT s.data.toList
  · rw [es] at IS
    clear h es
    go_enter Tryz.func65, Tryz.ntmps65
    go_wp2_with fail
    (with_reducible refine Calls.mono (IS.out _) ?_)
    rintro e w' ⟨rfl, rfl⟩
    go_wp2
    exact bodyPost_ret (v := .tuple #[.string ⟨#[]⟩, .string ⟨#[]⟩, .string ⟨#[]⟩, .int .i64 1]) (by simp [results, Tryz.results65, go_sem]) rfl ⟨rfl, B0.out⟩
  · rw [es] at IS h
    have et : isT t.data.toList = false := by simpa using h
    rw [et] at IT
    clear h es et
    go_enter Tryz.func65, Tryz.ntmps65
    go_wp2_with fail
    (with_reducible refine Calls.mono (IS.out _) ?_)
    rintro e w' ⟨rfl, rfl⟩
    go_wp2_with fail
    (with_reducible refine Calls.mono (IT.out _) ?_)
    rintro e w' ⟨rfl, rfl⟩
    go_wp2
    exact bodyPost_ret (v := .tuple #[.string ⟨#[]⟩, .string ⟨#[]⟩, .string ⟨#[]⟩, .int .i64 1]) (by simp [results, Tryz.results65, go_sem]) rfl ⟨rfl, B0.out⟩
end Go.Proofs.YtphbfjcaehiboaaGreatDoor
namespace Go.Proofs.YtphbfjcaehiboaaGreatDoor
open Go.RowKit

/-- Euclid's algorithm modulo B: the remainders r and s, and the factors that make them of A. -/
structure EI (A B r s x y : Int) : Prop where
  r0 : 0 ≤ r
  rs : r < s
  sb : s ≤ B
  dr : B ∣ A * x - r
  ds : B ∣ A * y - s
  gcd : (Int.gcd s r : Int) = Int.gcd A B
  sum : (x.natAbs : Int) * s + (y.natAbs : Int) * r = B
  sign : 0 ≤ x ∧ y ≤ 0 ∨ x ≤ 0 ∧ 0 ≤ y
  bx : (x.natAbs : Int) ≤ B
  bY : (y.natAbs : Int) ≤ B
theorem EI.start {A B : Int} (hB : 0 < B) : EI A B (A % B) B 1 0 where
  r0 := Int.emod_nonneg _ (by omega)
  rs := Int.emod_lt_of_pos _ hB
  sb := Int.le_refl _
  dr := by rw [Int.mul_one]; exact Int.dvd_self_sub_emod
  ds := by rw [Int.mul_zero, Int.zero_sub]; exact Int.dvd_neg.2 (Int.dvd_refl _)
  gcd := gcd_emod A B
  sum := by simp
  sign := .inl ⟨by omega, by omega⟩
  bx := by simp; omega
  bY := by simp; omega
theorem abs_step {x y q : Int} (hq : 0 ≤ q) (h : 0 ≤ x ∧ y ≤ 0 ∨ x ≤ 0 ∧ 0 ≤ y) : ((y - q * x).natAbs : Int) = y.natAbs + q * x.natAbs ∧ (0 ≤ y - q * x ∧ x ≤ 0 ∨ y - q * x ≤ 0 ∧ 0 ≤ x) := by
  rcases h with ⟨h1, h2⟩ | ⟨h1, h2⟩
  · have e := Int.mul_nonneg hq h1
    rw [show (x.natAbs : Int) = x by omega]
    generalize q * x = t at *
    omega
  · have e := Int.mul_nonneg hq (show 0 ≤ -x by omega)
    rw [show (x.natAbs : Int) = -x by omega]
    rw [Int.mul_neg] at *
    generalize q * x = t at *
    omega
theorem EI.next {A B r s x y : Int} (h : EI A B r s x y) (hr : 0 < r) : EI A B (s % r) r (y - s / r * x) x := by
  have hq : 0 ≤ s / r := Int.ediv_nonneg (by have := h.rs; omega) (by omega)
  have he := Int.mul_ediv_add_emod s r
  obtain ⟨e1, e2⟩ := abs_step hq h.sign
  have hm := Int.emod_nonneg s (show r ≠ 0 by omega)
  have hsum : ((y - s / r * x).natAbs : Int) * r + (x.natAbs : Int) * (s % r) = B := by
    rw [← h.sum, e1]
    generalize (x.natAbs : Int) = X
    generalize (y.natAbs : Int) = Y
    generalize s / r = q at *
    generalize s % r = t at *
    rw [← he]
    grind
  refine ⟨hm, Int.emod_lt_of_pos _ hr, Int.le_trans (Int.le_of_lt h.rs) h.sb, ?_, h.dr, ?_, hsum, e2, ?_, h.bx⟩
  · have h1 := Int.dvd_sub h.ds ((Int.dvd_mul_of_dvd_right (b := s / r) h.dr))
    have e : A * y - s - s / r * (A * x - r) = A * (y - s / r * x) - s % r := by
      generalize s / r = q at *
      generalize s % r = t at *
      rw [← he]
      grind
    rwa [e] at h1
  · rw [← h.gcd]
    exact gcd_emod s r
  · have p1 : 0 ≤ (x.natAbs : Int) * (s % r) := Int.mul_nonneg (by omega) hm
    have p2 : ((y - s / r * x).natAbs : Int) * 1 ≤ ((y - s / r * x).natAbs : Int) * r := Int.mul_le_mul_of_nonneg_left (by omega) (by omega)
    omega
theorem EI.done {A B r s x y : Int} (h : EI A B r s x y) (hr : r = 0) : s = Int.gcd A B ∧ B ∣ (Int.gcd A B : Int) - A * y := by
  have e := h.gcd
  rw [hr, Int.gcd_zero_right] at e
  have hs : s = Int.gcd A B := by have := h.r0; have := h.rs; omega
  refine ⟨hs, ?_⟩
  have := h.ds
  rw [hs] at this
  exact (Int.dvd_neg.1 (by rwa [Int.neg_sub]))
theorem bez_unique {A B x y x' y' : Int} (hB : B ≠ 0) (h : Bez A B x y) (h' : Bez A B x' y') : x = x' ∧ y = y' := by
  obtain ⟨a0, a1, a2⟩ := h
  obtain ⟨b0, b1, b2⟩ := h'
  have hg := gcd_pos (A := A) hB
  have hp := per_pos (A := A) hB
  have hm := per_mul (A := A) (B := B)
  have hx : x = x' := by
    obtain ⟨j, hj⟩ := Int.gcd_dvd_left A B
    obtain ⟨k, hk⟩ := Int.gcd_dvd_right A B
    have e : A * (x - x') = B * (y' - y) := by rw [Int.mul_sub, Int.mul_sub]; omega
    have e1 : (Int.gcd A B : Int) * (j * (x - x')) = Int.gcd A B * (k * (y' - y)) := by
      rw [← Int.mul_assoc, ← Int.mul_assoc, ← hj, ← hk]; exact e
    have e2 := Int.eq_of_mul_eq_mul_left (by omega) e1
    have hkp : (k.natAbs : Int) = per A B := by
      have e3 : (B.natAbs : Int) = Int.gcd A B * k.natAbs := by
        have := congrArg Int.natAbs hk
        rw [Int.natAbs_mul] at this
        rw [this, Int.natCast_mul]
        rfl
      rw [e3, Int.mul_comm] at hm
      exact (Int.eq_of_mul_eq_mul_left (by omega) hm).symm
    have hco : Int.gcd j k = 1 := by
      have h1 : Int.gcd A B = (Int.gcd A B) * Int.gcd j k := by
        have h4 := Int.gcd_mul_left (Int.gcd A B : Int) j k
        rwa [← hj, ← hk, Int.natAbs_natCast] at h4
      have h2 : (Int.gcd A B) * 1 = (Int.gcd A B) * Int.gcd j k := by rw [Nat.mul_one]; exact h1
      exact (Nat.eq_of_mul_eq_mul_left (by omega) h2).symm
    have hd : k ∣ x - x' := by
      have h3 : k ∣ j * (x - x') := by rw [e2]; exact Int.dvd_mul_right _ _
      rw [← Int.natAbs_dvd_natAbs, Int.natAbs_mul] at h3
      exact Int.natAbs_dvd_natAbs.1 (Nat.Coprime.dvd_of_dvd_mul_left (show Nat.gcd k.natAbs j.natAbs = 1 by rw [Nat.gcd_comm]; exact hco) h3)
    have hd2 : per A B ∣ x - x' := by rw [← hkp]; exact Int.natAbs_dvd.2 hd
    have := Int.eq_zero_of_dvd_of_natAbs_lt_natAbs hd2 (by omega)
    omega
  refine ⟨hx, ?_⟩
  subst hx
  have e : B * y = B * y' := by omega
  exact Int.eq_of_mul_eq_mul_left hB e
/-- A root of a number whose last two digits are dropped, with a digit more. -/
theorem root_up {h x : Int} (hr : IsRoot (h / 100) x) : 0 ≤ x * 10 ∧ x * 10 * (x * 10) ≤ h := by
  obtain ⟨r0, r1, r2⟩ := hr
  have e : x * 10 * (x * 10) = 100 * (x * x) := by grind
  rw [e]
  omega
theorem root_le {h x : Int} (h0 : 0 ≤ x) (hx : (x + 1) * (x + 1) ≤ h) : x + 1 ≤ h := by
  have : (x + 1) * 1 ≤ (x + 1) * (x + 1) := Int.mul_le_mul_of_nonneg_left (by omega) (by omega)
  omega
end Go.Proofs.YtphbfjcaehiboaaGreatDoor
namespace Go.Proofs.YtphbfjcaehiboaaGreatDoor
open Go.RowKit

theorem dn_bd {z B : Int} (h : (z.natAbs : Int) ≤ B.natAbs) (hB : dn B ≤ 1000) : dn z ≤ 1000 := Nat.le_trans (dnabs_le (by omega)) hB
theorem RBezout_zero (x y : Int) (w : World) (hx : dn x ≤ 1000) (hy : dn y ≤ 1000) (h0 : y = 0) :
    Calls Tryz.prog 65 #[.string (tx x), .string (tx y)] w (GivesR4 (tx x.natAbs) (tx (sg x)) ⟨#[48]⟩ 0 w) := by
  have IX := Lib.hid (fun W => Is_tx x W hx)
  have IY := Lib.hid (fun W => Is_tx y W hy)
  have DV := Lib.hid (fun W => rdivisor_any x y W (by omega) (by omega))
  rw [h0, Int.gcd_zero_right] at DV
  have hzt := tx_zero_test y
  rw [decide_eq_true h0] at hzt
  rw [← h0] at DV
  have CM := Lib.hid (fun W => rcompare_any x 0 W (by omega) (by rw [dn_zero]; omega))
  rw [cmp3_zero, tx_zero_lit] at CM
  have hsg : -1 ≤ sg x ∧ sg x ≤ 1 := by unfold sg; split <;> (try split) <;> omega
  have NU := Lib.hid (fun W => rnumber_any (sg x) W (by omega) (by omega))
  obtain ⟨A, hA⟩ : ∃ T, T = tx x := ⟨_, rfl⟩
  obtain ⟨B, hB⟩ : ∃ T, T = tx y := ⟨_, rfl⟩
  obtain ⟨G, hG⟩ : ∃ T, T = tx (x.natAbs : Int) := ⟨_, rfl⟩
  obtain ⟨k, hk⟩ : ∃ k, k = sg x := ⟨_, rfl⟩
  rw [← hk] at CM NU ⊢
  obtain ⟨K, hK⟩ : ∃ T, T = tx k := ⟨_, rfl⟩
  rw [← hA] at IX DV CM ⊢
  rw [← hB] at IY DV hzt ⊢
  rw [← hG] at DV ⊢
  rw [← hK] at NU ⊢
  clear hA hB hG hK hk hx hy h0 hsg
  go_enter Tryz.func65, Tryz.ntmps65
  go_wp2_with fail
  (with_reducible refine Calls.mono (IX.out _) ?_)
  rintro e w' ⟨rfl, rfl⟩
  go_wp2_with fail
  (with_reducible refine Calls.mono (IY.out _) ?_)
  rintro e w' ⟨rfl, rfl⟩
  go_wp2_with fail
  (with_reducible refine Calls.mono (DV.out _) ?_)
  rintro e w1 ⟨rfl, hb⟩
  have B1 := Lib.hid hb
  clear hb
  go_wp2_with fail
  (with_reducible refine Calls.mono (CM.out _) ?_)
  rintro e w2 ⟨rfl, hb⟩
  have B2 := Lib.hid (B1.out.trans (hb.mono B1.out.size))
  clear hb
  go_wp2_with fail
  (with_reducible refine Calls.mono (NU.out _) ?_)
  rintro e w3 ⟨rfl, hb⟩
  have B3 := Lib.hid (B2.out.trans (hb.mono B2.out.size))
  clear hb
  go_wp2
  exact bodyPost_ret (v := .tuple #[.string G, .string K, .string ⟨#[48]⟩, .int .i64 0]) (by simp [results, Tryz.results65, go_sem]) rfl ⟨rfl, B3.out⟩
set_option maxHeartbeats 2000000 in
theorem RBezout_tx (x y : Int) (w : World) (hx : dn x ≤ 1000) (hy : dn y ≤ 1000) (h0 : y ≠ 0) :
    Calls Tryz.prog 65 #[.string (tx x), .string (tx y)] w (fun e w' => ∃ x' y', Bez x y x' y' ∧ GivesR4 (tx (Int.gcd x y : Int)) (tx x') (tx y') 0 w e w') := by
  have IX := Lib.hid (fun W => Is_tx x W hx)
  have IY := Lib.hid (fun W => Is_tx y W hy)
  have DV := Lib.hid (fun W => rdivisor_any x y W (by omega) (by omega))
  have PY := Lib.hid (fun W => rpos_any y W (by omega))
  have hzt := tx_zero_test y
  rw [decide_eq_false h0] at hzt
  have hgp := gcd_pos (A := x) h0
  have hpp := per_pos (A := x) h0
  have hpm := per_mul (A := x) (B := y)
  have hgB : (Int.gcd x y : Int) ≤ y.natAbs := by
    rw [← hpm]
    have := Int.mul_le_mul_of_nonneg_right (show 1 ≤ per x y by omega) (show (0 : Int) ≤ Int.gcd x y by omega)
    omega
  have hpB : per x y ≤ y.natAbs := by
    rw [← hpm]
    have := Int.mul_le_mul_of_nonneg_left (show 1 ≤ (Int.gcd x y : Int) by omega) (show (0 : Int) ≤ per x y by omega)
    omega
  have hB0 : (0 : Int) < y.natAbs := by omega
  have hdB : dn (y.natAbs : Int) ≤ 1000 := by rw [dn_abs]; exact hy
  have hdg : dn (Int.gcd x y : Int) ≤ 1000 := dn_bd (B := y) (by omega) hy
  have hdp : dn (per x y) ≤ 1000 := dn_bd (B := y) (by omega) hy
  have Q1 := Lib.hid (fun W => rquo_any (y.natAbs : Int) (Int.gcd x y : Int) W (by omega) (by omega) (by omega))
  rw [show (y.natAbs : Int).fdiv (Int.gcd x y : Int) = per x y from Int.fdiv_eq_ediv_of_nonneg _ (by omega)] at Q1
  have Q2 := Lib.hid (fun W => rquo_any x (y.natAbs : Int) W (by omega) (by omega) (by omega))
  rw [show x.fmod (y.natAbs : Int) = x % (y.natAbs : Int) from Int.fmod_eq_emod_of_nonneg _ (by omega)] at Q2
  have E0 := Lib.hid (EI.start (A := x) hB0)
  have HQ := Lib.hid (fun s r W (h1 : dn s ≤ 1000) (h2 : dn r ≤ 1000) (h3 : r ≠ 0) => rquo_any s r W (by omega) (by omega) h3)
  have HT := Lib.hid (fun p q W (h1 : dn p ≤ 1000) (h2 : dn q ≤ 1000) => rtimes_any p q W (by omega) (by omega))
  have HM := Lib.hid (fun p q W (h1 : dn p ≤ 1000) (h2 : dn q ≤ 2000) => rminus_any p q W (by omega) (by omega))
  have HY := Lib.hid hy
  have HX := Lib.hid hx
  have HY0 := Lib.hid h0
  have HB0 := Lib.hid hB0
  have HDG := Lib.hid hdg
  have HDP := Lib.hid hdp
  have HPP := Lib.hid hpp
  have HBZ := Lib.hid (fun s (h : y ∣ (Int.gcd x y : Int) - x * s) => bez h0 h)
  obtain ⟨A, hA⟩ : ∃ T, T = tx x := ⟨_, rfl⟩
  obtain ⟨B, hB⟩ : ∃ T, T = tx y := ⟨_, rfl⟩
  obtain ⟨Y, hYs⟩ : ∃ T, T = tx (y.natAbs : Int) := ⟨_, rfl⟩
  obtain ⟨G, hG⟩ : ∃ T, T = tx (Int.gcd x y : Int) := ⟨_, rfl⟩
  obtain ⟨P, hP⟩ : ∃ T, T = tx (per x y) := ⟨_, rfl⟩
  obtain ⟨P2, hP2⟩ : ∃ T, T = tx ((y.natAbs : Int).fmod (Int.gcd x y : Int)) := ⟨_, rfl⟩
  obtain ⟨R0, hR0⟩ : ∃ T, T = tx (x % (y.natAbs : Int)) := ⟨_, rfl⟩
  obtain ⟨R2, hR2⟩ : ∃ T, T = tx (x.fdiv (y.natAbs : Int)) := ⟨_, rfl⟩
  rw [← hA] at IX DV Q2 ⊢
  rw [← hB] at IY DV PY hzt ⊢
  rw [← hYs] at PY Q1 Q2
  rw [← hG] at DV Q1
  rw [← hP, ← hP2] at Q1
  rw [← hR0, ← hR2] at Q2
  have EA := Lib.hid hA
  have EB := Lib.hid hB
  have EY := Lib.hid hYs
  have EG := Lib.hid hG
  have EP := Lib.hid hP
  have ER0 := Lib.hid hR0
  have E1 : Hid ((⟨#[49]⟩ : ByteArray) = tx 1) := Lib.hid tx_one.symm
  have EZ : Hid ((⟨#[48]⟩ : ByteArray) = tx 0) := Lib.hid tx_zero_lit.symm
  clear hA hB hYs hG hP hP2 hR0 hR2 hx hy h0 hgp hpp hpm hgB hpB hB0 hdB hdg hdp
  go_enter Tryz.func65, Tryz.ntmps65
  go_wp2_with fail
  (with_reducible refine Calls.mono (IX.out _) ?_)
  rintro e w' ⟨rfl, rfl⟩
  go_wp2_with fail
  (with_reducible refine Calls.mono (IY.out _) ?_)
  rintro e w' ⟨rfl, rfl⟩
  go_wp2_with fail
  (with_reducible refine Calls.mono (DV.out _) ?_)
  rintro e w1 ⟨rfl, hb⟩
  have B1 := Lib.hid hb
  clear hb
  go_wp2_with fail
  (with_reducible refine Calls.mono (PY.out _) ?_)
  rintro e w2 ⟨rfl, hb⟩
  have B2 := Lib.hid (B1.out.trans (hb.mono B1.out.size))
  clear hb
  go_wp2_with fail
  (with_reducible refine Calls.mono (Q1.out _) ?_)
  rintro e w3 ⟨rfl, hb⟩
  have B3 := Lib.hid (B2.out.trans (hb.mono B2.out.size))
  clear hb
  go_wp2_with fail
  (with_reducible refine Calls.mono (PY.out _) ?_)
  rintro e w4 ⟨rfl, hb⟩
  have B4 := Lib.hid (B3.out.trans (hb.mono B3.out.size))
  clear hb
  go_wp2_with fail
  (with_reducible refine Calls.mono (Q2.out _) ?_)
  rintro e w5 ⟨rfl, hb⟩
  have B5 := Lib.hid (B4.out.trans (hb.mono B4.out.size))
  clear hb
  go_wp2_with fail
  (with_reducible refine Calls.mono (PY.out _) ?_)
  rintro e w6 ⟨rfl, hb⟩
  have B6 := Lib.hid (B5.out.trans (hb.mono B5.out.size))
  clear hb
  go_wp2_with fail
  go_loopg [12, 13, 14, 15] (x % (y.natAbs : Int)).toNat (fun gk vr vs vu vv wr => ∃ (r s u v : Int) (R S U V : ByteArray), vr = .string R ∧ vs = .string S ∧ vu = .string U ∧ vv = .string V ∧ Hid (R = tx r) ∧ Hid (S = tx s) ∧ Hid (U = tx u) ∧ Hid (V = tx v) ∧ Hid (EI x y.natAbs r s u v) ∧ Hid (r.toNat ≤ gk) ∧ Below w.heap.size w wr)
  case atStart => exact ⟨_, _, _, _, _, _, _, _, rfl, rfl, rfl, rfl, ER0, EY, E1, EZ, E0, Lib.hid (Nat.le_refl _), B6.out⟩
  case round =>
    clear ER0 EY E1 EZ E0 B1 B2 B3 B4 B5 B6 Q1 Q2 PY DV IX IY
    obtain ⟨r, s, u, v, R, S, U, V, rfl, rfl, rfl, rfl, HR, HS, HU, HV, HE, HK, hb⟩ := hrel
    have BE := Lib.hid hb
    clear hb
    have hrt := tx_zero_test r
    rw [← HR.out] at hrt
    have hyn : (y.natAbs : Int).natAbs = y.natAbs := by omega
    have du : dn u ≤ 1000 := dn_bd (B := y) (by have := HE.out.bx; omega) HY.out
    have dv : dn v ≤ 1000 := dn_bd (B := y) (by have := HE.out.bY; omega) HY.out
    have ds : dn s ≤ 1000 := dn_bd (B := y) (by have := HE.out.sb; have := HE.out.r0; have := HE.out.rs; omega) HY.out
    have dr : dn r ≤ 1000 := dn_bd (B := y) (by have := HE.out.sb; have := HE.out.r0; have := HE.out.rs; omega) HY.out
    by_cases hr : r = 0
    · rw [decide_eq_true hr] at hrt
      have hrn : (R.toList != [48]) = false := by unfold bne; rw [hrt]; rfl
      obtain ⟨hsg, hdv⟩ := HE.out.done hr
      have hdy : y ∣ (Int.gcd x y : Int) - x * v := by
        have e : Int.gcd x (y.natAbs : Int) = Int.gcd x y := by unfold Int.gcd; simp
        rw [e] at hdv
        exact Int.natAbs_dvd.1 hdv
      obtain ⟨z0, z1, z2, z3⟩ := HBZ.out v hdy
      have Q3 := Lib.hid (fun W => HQ.out v (per x y) W dv HDP.out (by have := HPP.out; omega))
      obtain ⟨t, ht⟩ : ∃ t, t = v.fmod (per x y) := ⟨_, rfl⟩
      rw [← ht] at z0 z1 z2 z3 Q3
      have dt : dn t ≤ 1000 := Nat.le_trans (dnabs_le (by omega)) HDP.out
      have T1 := Lib.hid (fun W => HT.out x t W HX.out dt)
      have hdm : dn (x * t) ≤ 2000 := dn_mul2 (j := 1000) (k := 1000) HX.out dt (by omega)
      have M1 := Lib.hid (fun W => HM.out (Int.gcd x y : Int) (x * t) W HDG.out hdm)
      have hdd : dn ((Int.gcd x y : Int) - x * t) ≤ 2001 := dn_le2 (k := 2000) (by
        have a1 := dn_abs_lt HDG.out
        have a2 := dn_abs_lt hdm
        have a3 := Ten.bp_mono (show 1000 ≤ 2000 by omega)
        rw [Ten.bp_succ]
        omega)
      have Q4 := Lib.hid (fun W => rquo_any ((Int.gcd x y : Int) - x * t) y W (by omega) (by have := HY.out; omega) HY0.out)
      have HZ : Hid (Bez x y t (((Int.gcd x y : Int) - x * t).fdiv y)) := Lib.hid ⟨z0, z1, z2⟩
      obtain ⟨C1, hC1⟩ : ∃ T, T = tx (v.fdiv (per x y)) := ⟨_, rfl⟩
      obtain ⟨T, hT⟩ : ∃ T, T = tx t := ⟨_, rfl⟩
      obtain ⟨M, hM⟩ : ∃ T, T = tx (x * t) := ⟨_, rfl⟩
      obtain ⟨D, hD⟩ : ∃ T, T = tx ((Int.gcd x y : Int) - x * t) := ⟨_, rfl⟩
      obtain ⟨Z, hZ⟩ : ∃ T, T = tx (((Int.gcd x y : Int) - x * t).fdiv y) := ⟨_, rfl⟩
      obtain ⟨Z2, hZ2⟩ : ∃ T, T = tx (((Int.gcd x y : Int) - x * t).fmod y) := ⟨_, rfl⟩
      rw [← HV.out, ← EP.out, ← hC1, ← hT] at Q3
      rw [← EA.out, ← hT, ← hM] at T1
      rw [← EG.out, ← hM, ← hD] at M1
      rw [← hD, ← EB.out, ← hZ, ← hZ2] at Q4
      have ET := Lib.hid hT
      have EZ := Lib.hid hZ
      clear hr hsg hdv hdy z0 z1 z2 z3 ht dt hdm hdd hC1 hT hM hD hZ hZ2 du dv ds dr hyn
      go_wp2_with fail
      (with_reducible refine Calls.mono (Q3.out _) ?_)
      rintro e w7 ⟨rfl, hb⟩
      have B7 := Lib.hid (BE.out.trans (hb.mono BE.out.size))
      clear hb
      go_wp2_with fail
      (with_reducible refine Calls.mono (T1.out _) ?_)
      rintro e w8 ⟨rfl, hb⟩
      have B8 := Lib.hid (B7.out.trans (hb.mono B7.out.size))
      clear hb
      go_wp2_with fail
      (with_reducible refine Calls.mono (M1.out _) ?_)
      rintro e w9 ⟨rfl, hb⟩
      have B9 := Lib.hid (B8.out.trans (hb.mono B8.out.size))
      clear hb
      go_wp2_with fail
      (with_reducible refine Calls.mono (Q4.out _) ?_)
      rintro e w10 ⟨rfl, hb⟩
      have B10 := Lib.hid (B9.out.trans (hb.mono B9.out.size))
      clear hb
      go_wp2
      exact bodyPost_ret (v := .tuple #[.string G, .string T, .string Z, .int .i64 0]) (by simp [results, Tryz.results65, go_sem]) rfl ⟨_, _, HZ.out, by rw [← EG.out, ← ET.out, ← EZ.out]; exact ⟨rfl, B10.out⟩⟩
    · rw [decide_eq_false hr] at hrt
      have hrn : (R.toList != [48]) = true := by unfold bne; rw [hrt]; rfl
      have hr0 : 0 < r := by have := HE.out.r0; omega
      have EN := Lib.hid (HE.out.next hr0)
      have Q3 := Lib.hid (fun W => HQ.out s r W ds dr hr)
      rw [Int.fdiv_eq_ediv_of_nonneg _ (by omega), Int.fmod_eq_emod_of_nonneg _ (by omega)] at Q3
      have hq0 : 0 ≤ s / r := Int.ediv_nonneg (by have := HE.out.rs; omega) (by omega)
      have hq1 : s / r ≤ s := Int.ediv_le_self _ (by have := HE.out.rs; omega)
      have dq : dn (s / r) ≤ 1000 := Nat.le_trans (dnabs_le (by omega)) ds
      have T1 := Lib.hid (fun W => HT.out (s / r) u W dq du)
      have hdm : dn (s / r * u) ≤ 2000 := dn_mul2 (j := 1000) (k := 1000) dq du (by omega)
      have M1 := Lib.hid (fun W => HM.out v (s / r * u) W dv hdm)
      have HLT : Hid ((s % r).toNat < gk) := Lib.hid (by
        have a1 := Int.emod_lt_of_pos s hr0
        have a2 := Int.emod_nonneg s (show r ≠ 0 by omega)
        have a3 := HK.out
        omega)
      obtain ⟨Q, hQ⟩ : ∃ T, T = tx (s / r) := ⟨_, rfl⟩
      obtain ⟨N, hN⟩ : ∃ T, T = tx (s % r) := ⟨_, rfl⟩
      obtain ⟨M, hM⟩ : ∃ T, T = tx (s / r * u) := ⟨_, rfl⟩
      obtain ⟨D, hD⟩ : ∃ T, T = tx (v - s / r * u) := ⟨_, rfl⟩
      rw [← HS.out, ← HR.out, ← hQ, ← hN] at Q3
      rw [← hQ, ← HU.out, ← hM] at T1
      rw [← HV.out, ← hM, ← hD] at M1
      have EN2 := Lib.hid hN
      have ED := Lib.hid hD
      clear hr hr0 hq0 hq1 dq hdm hQ hN hM hD du dv ds dr hyn
      go_wp2_with fail
      (with_reducible refine Calls.mono (Q3.out _) ?_)
      rintro e w7 ⟨rfl, hb⟩
      have B7 := Lib.hid (BE.out.trans (hb.mono BE.out.size))
      clear hb
      go_wp2_with fail
      (with_reducible refine Calls.mono (T1.out _) ?_)
      rintro e w8 ⟨rfl, hb⟩
      have B8 := Lib.hid (B7.out.trans (hb.mono B7.out.size))
      clear hb
      go_wp2_with fail
      (with_reducible refine Calls.mono (M1.out _) ?_)
      rintro e w9 ⟨rfl, hb⟩
      have B9 := Lib.hid (B8.out.trans (hb.mono B8.out.size))
      clear hb
      go_wp2
      go_roundg (s % r).toNat
      case measure => exact HLT.out
      case rel => exact ⟨_, _, _, _, _, _, _, _, rfl, rfl, rfl, rfl, EN2, HR, ED, HU, EN, Lib.hid (Nat.le_refl _), B9.out⟩
end Go.Proofs.YtphbfjcaehiboaaGreatDoor
namespace Go.Proofs.YtphbfjcaehiboaaGreatDoor
open Go.RowKit
open Go.Lib (decDigits nDigits)

theorem take_dec : ∀ (k u : Nat), k < nDigits u → (decDigits u).take (nDigits u - k) = decDigits (u / 10 ^ k)
  | 0, u, _ => by rw [Nat.pow_zero, Nat.div_one, Nat.sub_zero, List.take_of_length_le (by rw [Lib.decDigits_length]; exact Nat.le_refl _)]
  | k + 1, u, h => by
    have hu : ¬ u < 10 := fun h10 => by rw [Lib.nDigits_small h10] at h; omega
    have ih := take_dec k (u / 10) (by rw [Lib.nDigits_big hu] at h; omega)
    rw [Lib.nDigits_big hu, show nDigits (u / 10) + 1 - (k + 1) = nDigits (u / 10) - k by omega, decDigits, dif_neg hu, List.take_append_of_le_length (by rw [Lib.decDigits_length]; omega), ih, Nat.div_div_eq_div_mul, Nat.pow_succ, Nat.mul_comm]
/-- The first t digits of an integer's text. -/
theorem tx_head {z : Int} (hz : 0 ≤ z) {t : Nat} (h1 : 1 ≤ t) (h2 : t ≤ dn z) : (tx z).extract 0 t = tx (z / Ten.bp (dn z - t)) := by
  have hb := Ten.bp_pos (dn z - t)
  have hq : 0 ≤ z / Ten.bp (dn z - t) := Int.ediv_nonneg hz (by omega)
  apply ba_ext
  rw [Lib.extract_data, Nat.sub_zero, List.drop_zero, tx_pos hz, tx_pos hq, td_list, td_list]
  have e := take_dec (dn z - t) z.natAbs (by show dn z - t < dn z; omega)
  rw [show nDigits z.natAbs - (dn z - t) = t by show dn z - (dn z - t) = t; omega] at e
  rw [e]
  congr 1
  have h3 : ((z / Ten.bp (dn z - t)).natAbs : Int) = ((z.natAbs / 10 ^ (dn z - t) : Nat) : Int) := by
    rw [Int.natAbs_of_nonneg hq, Int.natCast_ediv, Int.natAbs_of_nonneg hz]
    unfold Ten.bp
    rw [Int.natCast_pow]
    rfl
  exact_mod_cast h3.symm
theorem rroot_ex : ∀ n : Nat, ∃ r : Int, IsRoot n r
  | 0 => ⟨0, by omega, by simp, by simp⟩
  | n + 1 => by
    obtain ⟨r, h0, h1, h2⟩ := rroot_ex n
    by_cases h : (r + 1) * (r + 1) ≤ (n : Int) + 1
    · have e : (r + 1 + 1) * (r + 1 + 1) = (r + 1) * (r + 1) + 2 * r + 3 := by grind
      refine ⟨r + 1, by omega, by rw [Int.natCast_add]; exact h, ?_⟩
      rw [e]
      omega
    · exact ⟨r, h0, by omega, by omega⟩
theorem rroot_exI {z : Int} (hz : 0 ≤ z) : ∃ r, IsRoot z r := by
  obtain ⟨r, h⟩ := rroot_ex z.toNat
  exact ⟨r, by rwa [Int.toNat_of_nonneg hz] at h⟩
theorem head_100 {z : Int} {i : Nat} : z / Ten.bp (2 * i) / 100 = z / Ten.bp (2 * (i + 1)) := by
  rw [show 2 * (i + 1) = 2 * i + 2 by omega, Ten.div_add]
  congr 1
theorem RRoot_bad (s : ByteArray) (w : World) (hs : s.size ≤ 9223372036854775807) (h : isT s.data.toList = false) :
    Calls Tryz.prog 67 #[.string s] w (GivesEr 1 w) := by
  have IX := Lib.hid (fun W => Is_bad s W hs h)
  have B0 := Lib.hid (Below.refl w.heap.size w)
  clear h
  go_enter Tryz.func67, Tryz.ntmps67
  go_wp2_with fail
  (with_reducible refine Calls.mono (IX.out _) ?_)
  rintro e w' ⟨rfl, rfl⟩
  go_wp2
  go_ret2
  exact ⟨rfl, B0.out⟩
theorem RRoot_neg (z : Int) (w : World) (hd : dn z ≤ 1000) (hz : z < 0) :
    Calls Tryz.prog 67 #[.string (tx z)] w (GivesEr 1 w) := by
  have IX := Lib.hid (fun W => Is_tx z W hd)
  have B0 := Lib.hid (Below.refl w.heap.size w)
  have hsz := tx_size z
  rw [if_pos hz] at hsz
  have hb := tx_first z hz
  obtain ⟨T, hT⟩ : ∃ T, T = tx z := ⟨_, rfl⟩
  rw [← hT] at hsz hb IX ⊢
  have hT0 : 0 < T.size := by omega
  have hb0 : (((T[0]'hT0).toNat : Int) == 45) = true := by rw [hb hT0]; rfl
  clear hb hT hsz hd hz
  go_enter Tryz.func67, Tryz.ntmps67
  go_wp2_with fail
  (with_reducible refine Calls.mono (IX.out _) ?_)
  rintro e w' ⟨rfl, rfl⟩
  go_wp2
  go_ret2
  exact ⟨rfl, B0.out⟩
set_option maxHeartbeats 2000000 in
theorem RRoot_pos (z r : Int) (w : World) (hd : dn z ≤ 1000) (hz : 0 ≤ z) (hr : IsRoot z r) :
    Calls Tryz.prog 67 #[.string (tx z)] w (fun e w' => e = .returned (.tuple #[.string (tx r), .int .i64 0]) ∧ Below w.heap.size w w') := by
  have IX := Lib.hid (fun W => Is_tx z W hd)
  have B0 := Lib.hid (Below.refl w.heap.size w)
  have hsz := tx_size z
  rw [if_neg (by omega), Nat.add_zero] at hsz
  have hb := tx_first_not z (by omega)
  have hm1 := dn_pos z
  have HH := Lib.hid (fun t (h1 : 1 ≤ t) (h2 : t ≤ dn z) => tx_head hz h1 h2)
  have hzl := dn_abs_lt (x := z) (k := dn z) (Nat.le_refl _)
  rw [Int.natAbs_of_nonneg hz] at hzl
  have HZL := Lib.hid hzl
  have HZ := Lib.hid hz
  have HR := Lib.hid hr
  have HDQ : Hid (∀ h : Int, 0 ≤ h → h ≤ z → dn h ≤ 1000) := Lib.hid (fun h h0 h1 => Nat.le_trans (dnabs_le (by omega)) hd)
  obtain ⟨m, hm⟩ : ∃ m, m = dn z := ⟨_, rfl⟩
  rw [← hm] at hsz hm1 HH HZL hd
  obtain ⟨T, hT⟩ : ∃ T, T = tx z := ⟨_, rfl⟩
  rw [← hT] at hsz hb IX HH ⊢
  have hT0 : 0 < T.size := by omega
  have hb0 : (((T[0]'hT0).toNat : Int) == 45) = false := by have := hb hT0; rw [beq_eq_false_iff_ne]; omega
  have HSZ := Lib.hid hsz
  have hTm : T.size ≤ 1000 := by omega
  obtain ⟨i0, hi0⟩ : ∃ i0 : Nat, i0 = (T.size + 1) / 2 := ⟨_, rfl⟩
  have hi0' : ((T.size : Int) + 1) / 2 = (i0 : Int) := by omega
  have hi1 : i0 ≤ 500 := by omega
  have hi2 : 2 * i0 ≤ T.size + 1 := by omega
  have R0 : Hid (IsRoot (z / Ten.bp (2 * i0)) 0) := Lib.hid (by
    rw [Ten.div_zero hz (Int.lt_of_lt_of_le hzl (Ten.bp_mono (by omega)))]
    exact ⟨by omega, by simp, by simp⟩)
  have E0 : Hid ((⟨#[48]⟩ : ByteArray) = tx 0) := Lib.hid tx_zero_lit.symm
  have E1 : Hid ((⟨#[49]⟩ : ByteArray) = tx 1) := Lib.hid tx_one.symm
  have E10 : Hid ((⟨#[49, 48]⟩ : ByteArray) = tx 10) := Lib.hid (by unfold tx; rw [show Lib.itoa 10 = [49, 48] by simp [Lib.itoa, Lib.decDigits]])
  have HP1 : Hid (∀ q W, dn q ≤ 1000 → Calls Tryz.prog 51 #[.string (tx q), .string ⟨#[49]⟩] W (GivesY (tx (q + 1)) W)) := Lib.hid (fun q W h => by
    rw [E1.out]
    exact rplus_any q 1 W (by omega) (Nat.le_trans (dn_small (z := 1) (by decide)) (by omega)))
  have HT10 : Hid (∀ q W, dn q ≤ 1000 → Calls Tryz.prog 55 #[.string (tx q), .string ⟨#[49, 48]⟩] W (GivesY (tx (q * 10)) W)) := Lib.hid (fun q W h => by
    rw [E10.out]
    exact rtimes_any q 10 W (by omega) (Nat.le_trans (dnabs_le (x := 10) (y := 99) (by decide)) (by simp [dn, Lib.nDigits_small, Lib.nDigits_big])))
  clear hb hT hm hsz hd hz hr hzl hi0
  go_enter Tryz.func67, Tryz.ntmps67
  go_wp2_with fail
  (with_reducible refine Calls.mono (IX.out _) ?_)
  rintro e w' ⟨rfl, rfl⟩
  go_wp2_with fail
  go_loopw [4, 5] (fun vx vi wr => ∃ (i : Nat) (q : Int) (Q : ByteArray), vi = .int .i64 i ∧ vx = .string Q ∧ Hid (Q = tx q) ∧ i ≤ 500 ∧ 2 * i ≤ T.size + 1 ∧ Hid (IsRoot (z / Ten.bp (2 * i)) q) ∧ Below w.heap.size w wr) (fun _ vi _ => (intOf vi).toNat)
  case atStart => exact ⟨i0, 0, _, by first | rfl | rw [hi0'], rfl, E0, hi1, hi2, R0, B0.out⟩
  case round =>
    clear R0 B0 hi0' hi1 hi2 IX
    obtain ⟨i, q, Q, rfl, rfl, HQ, hi1, hi2, HRT, hb⟩ := hrel
    have BE := Lib.hid hb
    clear hb
    rcases Nat.eq_zero_or_pos i with h0 | h0
    · subst h0
      have hqr : q = r := by
        have := HRT.out
        rw [Nat.mul_zero, Ten.div_bp_zero] at this
        exact this.unique HR.out
      have HQR := Lib.hid hqr
      clear hqr
      go_wp2
      go_ret2
      exact ⟨ret_si (by rw [HQ.out, HQR.out]) rfl, BE.out⟩
    · obtain ⟨j, rfl⟩ : ∃ j, i = j + 1 := ⟨i - 1, by omega⟩
      have hij : ((j + 1 : Nat) : Int) - 1 = (j : Int) := by omega
      obtain ⟨t, ht⟩ : ∃ t : Nat, t = T.size - 2 * j := ⟨_, rfl⟩
      have hti : (T.size : Int) - 2 * (j : Int) = (t : Int) := by omega
      have ht1 : 1 ≤ t := by omega
      have ht2 : t ≤ T.size := by omega
      have hx := HH.out t ht1 (by have := HSZ.out; omega)
      rw [show m - t = 2 * j by have := HSZ.out; omega] at hx
      obtain ⟨h, hh⟩ : ∃ h, h = z / Ten.bp (2 * j) := ⟨_, rfl⟩
      rw [← hh] at hx
      have hh0 : 0 ≤ h := by rw [hh]; exact Int.ediv_nonneg HZ.out (Int.le_of_lt (Ten.bp_pos _))
      have hhz : h ≤ z := by rw [hh]; exact Int.ediv_le_self _ HZ.out
      have hrt := HRT.out
      rw [← head_100, ← hh] at hrt
      obtain ⟨u0, u1⟩ := root_up hrt
      have hdh := HDQ.out h hh0 hhz
      have hdq : dn q ≤ 1000 := HDQ.out q hrt.1 (by
        have a1 := hrt.1
        have a2 := hrt.2.1
        have a3 : q * 1 ≤ q * q ∨ q = 0 := by
          rcases Int.lt_or_le 0 q with c | c
          · exact .inl (Int.mul_le_mul_of_nonneg_left (by omega) a1)
          · exact .inr (by omega)
        omega)
      have TE := Lib.hid (fun W => HT10.out q W hdq)
      rw [← HQ.out] at TE
      obtain ⟨H, hH⟩ : ∃ H, H = tx h := ⟨_, rfl⟩
      rw [← hH] at hx
      obtain ⟨Q10, hQ10⟩ : ∃ H, H = tx (q * 10) := ⟨_, rfl⟩
      rw [← hQ10] at TE
      have EH := Lib.hid hH
      have EQ10 := Lib.hid hQ10
      have EHH := Lib.hid hh
      have U0 := Lib.hid u0
      have U1 := Lib.hid u1
      have HDH := Lib.hid hdh
      have HH0 := Lib.hid hh0
      have HHZ := Lib.hid hhz
      clear hrt u0 u1 hh hh0 hhz hdh hdq hH hQ10 HRT HQ ht
      go_wp2_with fail
      (with_reducible refine Calls.mono (TE.out _) ?_)
      rintro e w1 ⟨rfl, hb⟩
      have B1 := Lib.hid (BE.out.trans (hb.mono BE.out.size))
      clear hb hx
      go_wp2_with fail
      go_loopg [4] (h - q * 10).toNat (fun gk vx wi => ∃ (p : Int) (P : ByteArray), vx = .string P ∧ Hid (P = tx p) ∧ Hid (0 ≤ p ∧ p * p ≤ h) ∧ Hid ((h - p).toNat ≤ gk) ∧ Below w.heap.size w wi)
      case atStart => exact ⟨_, _, rfl, EQ10, Lib.hid ⟨U0.out, U1.out⟩, Lib.hid (Nat.le_refl _), B1.out⟩
      case round =>
        clear EQ10 U0 U1 B1 TE BE
        obtain ⟨p, P, rfl, HP, HPP, HK, hb⟩ := hrel
        have BI := Lib.hid hb
        clear hb
        obtain ⟨p0, p1⟩ := HPP.out
        have hph : p ≤ h := by
          rcases Int.lt_or_le 0 p with c | c
          · have := Int.mul_le_mul_of_nonneg_left (show 1 ≤ p by omega) p0
            omega
          · have := HH0.out; omega
        have hdp : dn p ≤ 1000 := HDQ.out p p0 (by have := HHZ.out; omega)
        have PL := Lib.hid (fun W => HP1.out p W hdp)
        rw [← HP.out] at PL
        have hdp1 : dn (p + 1) ≤ 1001 := dn_le2 (k := 1000) (by
          have := dn_abs_lt hdp
          rw [Ten.bp_succ]
          omega)
        have TT := Lib.hid (fun W => rtimes_any (p + 1) (p + 1) W (by omega) (by omega))
        have hdpp : dn ((p + 1) * (p + 1)) ≤ 2002 := dn_mul2 (j := 1001) (k := 1001) hdp1 hdp1 (by omega)
        have CM := Lib.hid (fun W => rcompare_any ((p + 1) * (p + 1)) h W (by omega) (by have := HDH.out; omega))
        rw [← EH.out] at CM
        obtain ⟨P1, hP1⟩ : ∃ H, H = tx (p + 1) := ⟨_, rfl⟩
        obtain ⟨PP, hPP⟩ : ∃ H, H = tx ((p + 1) * (p + 1)) := ⟨_, rfl⟩
        rw [← hP1] at PL TT
        rw [← hPP] at TT CM
        have EP1 := Lib.hid hP1
        obtain ⟨c, hc⟩ : ∃ c, c = cmp3 ((p + 1) * (p + 1)) h := ⟨_, rfl⟩
        rw [← hc] at CM
        by_cases hle : (p + 1) * (p + 1) ≤ h
        · have hcl : c ≤ 0 := by rw [hc]; unfold cmp3; split <;> (try split) <;> omega
          have hn := root_le p0 hle
          have HN1 : Hid (0 ≤ p + 1 ∧ (p + 1) * (p + 1) ≤ h) := Lib.hid ⟨by omega, hle⟩
          have HN2 : Hid ((h - (p + 1)).toNat < gk) := Lib.hid (by have := HK.out; omega)
          clear p0 p1 hph hdp hdp1 hdpp hP1 hPP hc hle hn
          go_wp2_with fail
          (with_reducible refine Calls.mono (PL.out _) ?_)
          rintro e w2 ⟨rfl, hb⟩
          have B2 := Lib.hid (BI.out.trans (hb.mono BI.out.size))
          clear hb
          go_wp2_with fail
          (with_reducible refine Calls.mono (PL.out _) ?_)
          rintro e w3 ⟨rfl, hb⟩
          have B3 := Lib.hid (B2.out.trans (hb.mono B2.out.size))
          clear hb
          go_wp2_with fail
          (with_reducible refine Calls.mono (TT.out _) ?_)
          rintro e w4 ⟨rfl, hb⟩
          have B4 := Lib.hid (B3.out.trans (hb.mono B3.out.size))
          clear hb
          go_wp2_with fail
          (with_reducible refine Calls.mono (CM.out _) ?_)
          rintro e w5 ⟨rfl, hb⟩
          have B5 := Lib.hid (B4.out.trans (hb.mono B4.out.size))
          clear hb
          go_wp2_with fail
          (with_reducible refine Calls.mono (PL.out _) ?_)
          rintro e w6 ⟨rfl, hb⟩
          have B6 := Lib.hid (B5.out.trans (hb.mono B5.out.size))
          clear hb
          go_wp2
          go_roundg (h - (p + 1)).toNat
          case measure => exact HN2.out
          case rel => exact ⟨_, _, rfl, EP1, HN1, Lib.hid (Nat.le_refl _), B6.out⟩
        · have hcl : ¬ c ≤ 0 := by rw [hc]; unfold cmp3; split <;> (try split) <;> omega
          have HRN : Hid (IsRoot (z / Ten.bp (2 * j)) p) := Lib.hid (by rw [← EHH.out]; exact ⟨p0, p1, by omega⟩)
          clear p0 p1 hph hdp hdp1 hdpp hP1 hPP hc hle
          go_wp2_with fail
          (with_reducible refine Calls.mono (PL.out _) ?_)
          rintro e w2 ⟨rfl, hb⟩
          have B2 := Lib.hid (BI.out.trans (hb.mono BI.out.size))
          clear hb
          go_wp2_with fail
          (with_reducible refine Calls.mono (PL.out _) ?_)
          rintro e w3 ⟨rfl, hb⟩
          have B3 := Lib.hid (B2.out.trans (hb.mono B2.out.size))
          clear hb
          go_wp2_with fail
          (with_reducible refine Calls.mono (TT.out _) ?_)
          rintro e w4 ⟨rfl, hb⟩
          have B4 := Lib.hid (B3.out.trans (hb.mono B3.out.size))
          clear hb
          go_wp2_with fail
          (with_reducible refine Calls.mono (CM.out _) ?_)
          rintro e w5 ⟨rfl, hb⟩
          have B5 := Lib.hid (B4.out.trans (hb.mono B4.out.size))
          clear hb
          go_wp2
          go_roundw
          case rel => exact ⟨j, p, _, by go_num, rfl, HP, by omega, by omega, HRN, B5.out⟩
          case measure => simp [intOf] <;> omega
end Go.Proofs.YtphbfjcaehiboaaGreatDoor
namespace Go.Proofs.YtphbfjcaehiboaaGreatDoor
open Go.RowKit
open Go.Lib

def fv (acc : Nat) (d : List UInt8) : Nat := d.foldl (fun a c => 10 * a + (c.toNat - 48)) acc
theorem fv_ge : ∀ (d : List UInt8) (acc : Nat), acc ≤ fv acc d := by
  intro d
  induction d with
  | nil => intro acc; exact Nat.le_refl _
  | cons c d ih =>
    intro acc
    have := ih (10 * acc + (c.toNat - 48))
    show acc ≤ fv (10 * acc + (c.toNat - 48)) d
    omega
theorem pum (M : Nat) (hM : M = 18446744073709551615) : ∀ (d : List UInt8) (acc : Nat), (∀ c ∈ d, isDig c = true) → acc ≤ M → parseUintM M acc d = if fv acc d ≤ M then .ok (fv acc d) else .range := by
  intro d
  induction d with
  | nil =>
    intro acc _ h
    show NumEnd.ok acc = if acc ≤ M then _ else _
    rw [if_pos h]
    rfl
  | cons c d ih =>
    intro acc hd h
    have hc := hd c (by simp)
    unfold isDig at hc
    simp at hc
    unfold parseUintM
    rw [if_pos hc]
    have hg := fv_ge d (10 * acc + (c.toNat - 48))
    have e : fv acc (c :: d) = fv (10 * acc + (c.toNat - 48)) d := rfl
    rw [e]
    by_cases h1 : 1844674407370955162 ≤ acc
    · rw [if_pos h1, if_neg (by omega)]
    · rw [if_neg h1, Nat.mul_comm acc 10]
      by_cases h2 : M < 10 * acc + (c.toNat - 48)
      · rw [if_pos h2, if_neg (by omega)]
      · rw [if_neg h2]
        exact ih _ (fun x hx => hd x (by simp [hx])) (by omega)
theorem pub (n : Nat) : parseUintB 64 (decDigits n) = if n ≤ 18446744073709551615 then .ok n else .range := by
  unfold parseUintB
  rw [if_neg (dec_ne n), show 2 ^ 64 - 1 = 18446744073709551615 from rfl, pum _ rfl _ 0 (dec_all n) (by omega)]
  have : fv 0 (decDigits n) = n := vald_dec n
  rw [this]
theorem pib (z : Int) : parseIntB 64 (itoa z) = if -9223372036854775808 ≤ z ∧ z ≤ 9223372036854775807 then .ok z else .range := by
  unfold itoa
  by_cases h : z < 0
  · rw [if_pos h]
    unfold parseIntB
    have e45 : (45 : UInt8).toNat = 45 := rfl
    simp only [e45]
    rw [if_pos (by simp)]
    rw [pub]
    by_cases h1 : z.natAbs ≤ 18446744073709551615
    · rw [if_pos h1]
      simp only
      rw [if_neg (by simp)]
      by_cases h2 : 9223372036854775808 < z.natAbs
      · rw [if_pos ⟨trivial, h2⟩, if_neg (by omega)]
      · rw [if_neg (fun e => h2 e.2), if_pos trivial, if_pos (by omega)]
        congr 1
        omega
    · rw [if_neg h1, if_neg (by omega)]
  · rw [if_neg h]
    unfold parseIntB
    cases hd : decDigits z.toNat with
    | nil => exact absurd hd (dec_ne _)
    | cons c r =>
      have hc := dec_all z.toNat c (by rw [hd]; simp)
      unfold isDig at hc
      simp at hc
      have c1 : ¬ (c.toNat = 43 ∨ c.toNat = 45) := by omega
      have c2 : ¬ c.toNat = 45 := by omega
      simp only
      rw [if_neg c1, ← hd, pub]
      by_cases h1 : z.toNat ≤ 18446744073709551615
      · rw [if_pos h1]
        simp only
        by_cases h2 : 9223372036854775808 ≤ z.toNat
        · rw [if_pos ⟨c2, h2⟩, if_neg (by omega)]
        · rw [if_neg (fun e => h2 e.2), if_neg (fun e => c2 e.1), if_neg c2, if_pos (by omega)]
          congr 1
          omega
      · rw [if_neg h1, if_neg (by omega)]
/-- The call hands back an int64 and a bool. -/
def GivesJB (z : Int) (b : Bool) (w : World) (e : Ending) (w' : World) : Prop := e = .returned (.tuple #[.int .i64 z, .bool b]) ∧ Below w.heap.size w w'
theorem Int64_bad (s : ByteArray) (w : World) (hs : s.size ≤ 9223372036854775807) (h : isT s.data.toList = false) :
    Calls Tryz.prog 5 #[.string s] w (GivesJB 0 false w) := by
  have VB := Lib.hid (Valid_bad s w hs h)
  clear h
  go_enter Tryz.func5, Tryz.ntmps5
  go_wp2_with fail
  refine VB.out.mono ?_
  rintro e w' ⟨rfl, rfl⟩
  go_wp2
  go_ret2
  exact ⟨rfl, Below.refl _ _⟩
theorem Int64_tx (z : Int) (w : World) (h1 : -9223372036854775808 ≤ z) (h2 : z ≤ 9223372036854775807) :
    Calls Tryz.prog 5 #[.string (tx z)] w (GivesJB z true w) := by
  have hd := dn_word h1 h2
  have hv := Valid_tx z w hd
  have hp := Tryz.strconv_ParseInt_10_at64_ok (tx z) (by have := tx_le hd; omega) z (by rw [tx_list, pib, if_pos ⟨h1, h2⟩]) w
  obtain ⟨T, hT⟩ : ∃ T, T = tx z := ⟨_, rfl⟩
  rw [← hT] at hv hp ⊢
  have VT := Lib.hid hv
  have PI := Lib.hid hp
  clear hv hp hT hd h1 h2
  go_enter Tryz.func5, Tryz.ntmps5
  go_wp2_with fail
  refine VT.out.mono ?_
  rintro e w' ⟨rfl, rfl⟩
  go_wp2_with fail
  refine PI.out.mono ?_
  rintro e w' ⟨rfl, hw⟩
  have hb : Below w.heap.size w w' := by
    rcases hw with rfl | ⟨t, rfl⟩
    · exact Below.refl _ _
    · exact bytesWorld_below _ _ _
  have HB := Lib.hid hb
  clear hw hb
  go_wp2
  go_ret2
  exact ⟨rfl, HB.out⟩
theorem Int64_out (z : Int) (w : World) (hd : dn z ≤ 1000) (h : ¬ (-9223372036854775808 ≤ z ∧ z ≤ 9223372036854775807)) (tp : TypeId) (p : Value) (hvar : w.var? Tryz.prog "strconv.ErrRange" = some #[.iface tp p]) :
    Calls Tryz.prog 5 #[.string (tx z)] w (GivesJB 0 false w) := by
  have hv := Valid_tx z w hd
  have hp := Tryz.strconv_ParseInt_10_at64_range_var (tx z) (by have := tx_le hd; omega) (by rw [tx_list, pib, if_neg h]) tp p w hvar
  obtain ⟨T, hT⟩ : ∃ T, T = tx z := ⟨_, rfl⟩
  rw [← hT] at hv hp ⊢
  have VT := Lib.hid hv
  have PI := Lib.hid hp
  clear hv hp hT hd h hvar
  go_enter Tryz.func5, Tryz.ntmps5
  go_wp2_with fail
  refine VT.out.mono ?_
  rintro e w' ⟨rfl, rfl⟩
  go_wp2_with fail
  refine PI.out.mono ?_
  rintro e w' ⟨N, rfl, _, _, hb⟩
  have HB := Lib.hid hb
  clear hb
  go_wp2
  go_ret2
  exact ⟨rfl, HB.out⟩
end Go.Proofs.YtphbfjcaehiboaaGreatDoor
namespace Go.Proofs.YtphbfjcaehiboaaGreatDoor
open Go.RowKit

theorem RInt64_bad (s : ByteArray) (w : World) (hs : s.size ≤ 9223372036854775807) (h : isT s.data.toList = false) :
    Calls Tryz.prog 6 #[.string s] w (GivesJB 0 false w) := by
  have IX := Lib.hid (fun W => Is_bad s W hs h)
  have B0 := Lib.hid (Below.refl w.heap.size w)
  clear h
  go_enter Tryz.func6, Tryz.ntmps6
  go_wp2_with fail
  (with_reducible refine Calls.mono (IX.out _) ?_)
  rintro e w' ⟨rfl, rfl⟩
  go_wp2
  go_ret2
  exact ⟨rfl, B0.out⟩
theorem dn_max64 : dn 9223372036854775807 ≤ 50000 := by
  have := dn_word (x := 9223372036854775807) (by omega) (by omega)
  omega
theorem dn_min64 : dn (-9223372036854775808) ≤ 50000 := by
  have := dn_word (x := -9223372036854775808) (by omega) (by omega)
  omega
theorem RInt64_above (z : Int) (w : World) (hd : dn z ≤ 1000) (h : 9223372036854775807 < z) :
    Calls Tryz.prog 6 #[.string (tx z)] w (GivesJB 0 false w) := by
  have IX := Lib.hid (fun W => Is_tx z W hd)
  have NM := Lib.hid (fun W => rnumber_any 9223372036854775807 W (by omega) (by omega))
  have CM := Lib.hid (fun W => rcompare_any z 9223372036854775807 W (by omega) dn_max64)
  rw [show cmp3 z 9223372036854775807 = 1 by unfold cmp3; rw [if_neg (by omega), if_pos h]] at CM
  obtain ⟨T, hT⟩ : ∃ T, T = tx z := ⟨_, rfl⟩
  obtain ⟨M, hM⟩ : ∃ T, T = tx 9223372036854775807 := ⟨_, rfl⟩
  rw [← hT] at IX CM ⊢
  rw [← hM] at NM CM
  clear hT hM hd h
  go_enter Tryz.func6, Tryz.ntmps6
  go_wp2_with fail
  (with_reducible refine Calls.mono (IX.out _) ?_)
  rintro e w' ⟨rfl, rfl⟩
  go_wp2_with fail
  (with_reducible refine Calls.mono (NM.out _) ?_)
  rintro e w1 ⟨rfl, hb⟩
  have B1 := Lib.hid hb
  clear hb
  go_wp2_with fail
  (with_reducible refine Calls.mono (CM.out _) ?_)
  rintro e w2 ⟨rfl, hb⟩
  have B2 := Lib.hid (B1.out.trans (hb.mono B1.out.size))
  clear hb
  go_wp2
  go_ret2
  exact ⟨rfl, B2.out⟩
theorem RInt64_under (z : Int) (w : World) (hd : dn z ≤ 1000) (h : z < -9223372036854775808) :
    Calls Tryz.prog 6 #[.string (tx z)] w (GivesJB 0 false w) := by
  have IX := Lib.hid (fun W => Is_tx z W hd)
  have NM := Lib.hid (fun W => rnumber_any 9223372036854775807 W (by omega) (by omega))
  have CM := Lib.hid (fun W => rcompare_any z 9223372036854775807 W (by omega) dn_max64)
  rw [cmp3_lt (by omega)] at CM
  have NL := Lib.hid (fun W => rnumber_any (-9223372036854775808) W (by omega) (by omega))
  have CL := Lib.hid (fun W => rcompare_any z (-9223372036854775808) W (by omega) dn_min64)
  rw [cmp3_lt h] at CL
  obtain ⟨T, hT⟩ : ∃ T, T = tx z := ⟨_, rfl⟩
  obtain ⟨M, hM⟩ : ∃ T, T = tx 9223372036854775807 := ⟨_, rfl⟩
  obtain ⟨L, hL⟩ : ∃ T, T = tx (-9223372036854775808) := ⟨_, rfl⟩
  rw [← hT] at IX CM CL ⊢
  rw [← hM] at NM CM
  rw [← hL] at NL CL
  clear hT hM hL hd h
  go_enter Tryz.func6, Tryz.ntmps6
  go_wp2_with fail
  (with_reducible refine Calls.mono (IX.out _) ?_)
  rintro e w' ⟨rfl, rfl⟩
  go_wp2_with fail
  (with_reducible refine Calls.mono (NM.out _) ?_)
  rintro e w1 ⟨rfl, hb⟩
  have B1 := Lib.hid hb
  clear hb
  go_wp2_with fail
  (with_reducible refine Calls.mono (CM.out _) ?_)
  rintro e w2 ⟨rfl, hb⟩
  have B2 := Lib.hid (B1.out.trans (hb.mono B1.out.size))
  clear hb
  go_wp2_with fail
  (with_reducible refine Calls.mono (NL.out _) ?_)
  rintro e w3 ⟨rfl, hb⟩
  have B3 := Lib.hid (B2.out.trans (hb.mono B2.out.size))
  clear hb
  go_wp2_with fail
  (with_reducible refine Calls.mono (CL.out _) ?_)
  rintro e w4 ⟨rfl, hb⟩
  have B4 := Lib.hid (B3.out.trans (hb.mono B3.out.size))
  clear hb
  go_wp2
  go_ret2
  exact ⟨rfl, B4.out⟩
theorem ret_jb {a b : Int} {c : Bool} (h : a = b) : (Ending.returned (.tuple #[.int .i64 a, .bool c])) = .returned (.tuple #[.int .i64 b, .bool c]) := by rw [h]
theorem hi9_le (U : Int) (m j : Nat) (h : 0 ≤ U) : 0 ≤ hi9 U m j ∧ hi9 U m j ≤ U := by
  unfold hi9
  exact ⟨Int.ediv_nonneg h (Int.le_of_lt (Ten.bp_pos _)), Int.ediv_le_self _ h⟩
set_option maxHeartbeats 4000000 in
set_option maxRecDepth 100000 in
theorem RInt64_tx (z : Int) (w : World) (h1 : -9223372036854775808 ≤ z) (h2 : z ≤ 9223372036854775807) :
    Calls Tryz.prog 6 #[.string (tx z)] w (GivesJB z true w) := by
  have hd := dn_word h1 h2
  have IX := Lib.hid (fun W => Is_tx z W hd)
  have NM := Lib.hid (fun W => rnumber_any 9223372036854775807 W (by omega) (by omega))
  have CM := Lib.hid (fun W => rcompare_any z 9223372036854775807 W (by omega) dn_max64)
  have NL := Lib.hid (fun W => rnumber_any (-9223372036854775808) W (by omega) (by omega))
  have CL := Lib.hid (fun W => rcompare_any z (-9223372036854775808) W (by omega) dn_min64)
  obtain ⟨c1, hc1⟩ : ∃ c, c = cmp3 z 9223372036854775807 := ⟨_, rfl⟩
  obtain ⟨c2, hc2⟩ : ∃ c, c = cmp3 z (-9223372036854775808) := ⟨_, rfl⟩
  have hk1 : ¬ 0 < c1 := by rw [hc1]; unfold cmp3; split <;> (try split) <;> omega
  have hk2 : ¬ c2 < 0 := by rw [hc2]; unfold cmp3; split <;> (try split) <;> omega
  rw [← hc1] at CM
  rw [← hc2] at CL
  have hsz := tx_size z
  have hdig := tx_dig z
  have hfst := tx_first z
  have hfn := tx_first_not z
  have hp := dn_pos z
  have hlt := dn_lt (x := (z.natAbs : Int)) (by omega)
  rw [dn_abs] at hlt
  obtain ⟨U, hU⟩ : ∃ U : Int, U = z.natAbs := ⟨_, rfl⟩
  have hU0 : 0 ≤ U := by omega
  rw [← hU] at hlt hdig
  obtain ⟨m, hm⟩ : ∃ m, m = dn z := ⟨_, rfl⟩
  rw [← hm] at hsz hp hlt hd
  obtain ⟨T, hT⟩ : ∃ T, T = tx z := ⟨_, rfl⟩
  obtain ⟨M, hM⟩ : ∃ T, T = tx 9223372036854775807 := ⟨_, rfl⟩
  obtain ⟨L, hL⟩ : ∃ T, T = tx (-9223372036854775808) := ⟨_, rfl⟩
  rw [← hM] at NM CM
  rw [← hL] at NL CL
  rw [← hT] at hsz hdig hfst hfn IX CM CL ⊢
  have hT0 : 0 < T.size := by omega
  obtain ⟨sg, hsg⟩ : ∃ sg, sg = decide (z < 0) := ⟨_, rfl⟩
  have hb0 : (((T[0]'hT0).toNat : Int) != 45) = !sg := by
    rw [hsg]
    by_cases h : z < 0
    · rw [decide_eq_true h, Bool.not_true, bne_eq_false_iff_eq]; exact hfst h hT0
    · have := hfn h hT0
      rw [decide_eq_false h, Bool.not_false, bne_iff_ne]; omega
  have HD := Lib.hid hdig
  have HF := Lib.hid hfst
  have hTm : T.size ≤ 1001 := by split at hsz <;> omega
  obtain ⟨f, hf⟩ : ∃ f : Nat, f = if z < 0 then 1 else 0 := ⟨_, rfl⟩
  have HFF := Lib.hid hf
  have hTf : T.size = m + f := by rw [hf]; exact hsz
  have hf1 : f ≤ 1 := by rw [hf]; split <;> omega
  have hst : hi9 U m 0 = 0 := by unfold hi9; rw [Nat.sub_zero, Ten.div_zero hU0 hlt]
  have hen : hi9 U m m = U := by unfold hi9; rw [Nat.sub_self, Ten.div_bp_zero]
  have hsu : ∀ j, j < m → 10 * hi9 U m j + Ten.lz U (m - 1 - j) = hi9 U m (j + 1) := fun j hj => by
    unfold hi9
    have := Ten.div_split U (m - (j + 1))
    rw [show m - (j + 1) + 1 = m - j by omega] at this
    rw [this, show m - 1 - j = m - (j + 1) by omega]
  have hUb : U ≤ 9223372036854775808 := by omega
  have ST := Lib.hid hst
  have EN := Lib.hid hen
  have SU := Lib.hid hsu
  have BD := Lib.hid (fun j => hi9_le U m j hU0)
  have hzz : z < 0 ∧ -U = z ∨ ¬ z < 0 ∧ U = z ∧ U ≤ 9223372036854775807 := by omega
  have HZZ := Lib.hid hzz
  have HUB := Lib.hid hUb
  have HSG := Lib.hid hsg
  have HTF := Lib.hid hTf
  clear hdig hfst hfn hsz hT hM hL hU hm hlt hf hst hen hsu hzz hsg hd h1 h2 hc1 hc2 hUb hU0
  go_enter Tryz.func6, Tryz.ntmps6
  go_wp2_with fail
  (with_reducible refine Calls.mono (IX.out _) ?_)
  rintro e w' ⟨rfl, rfl⟩
  go_wp2_with fail
  (with_reducible refine Calls.mono (NM.out _) ?_)
  rintro e w1 ⟨rfl, hb⟩
  have B1 := Lib.hid hb
  clear hb
  go_wp2_with fail
  (with_reducible refine Calls.mono (CM.out _) ?_)
  rintro e w2 ⟨rfl, hb⟩
  have B2 := Lib.hid (B1.out.trans (hb.mono B1.out.size))
  clear hb
  go_wp2_with fail
  (with_reducible refine Calls.mono (NL.out _) ?_)
  rintro e w3 ⟨rfl, hb⟩
  have B3 := Lib.hid (B2.out.trans (hb.mono B2.out.size))
  clear hb
  go_wp2_with fail
  (with_reducible refine Calls.mono (CL.out _) ?_)
  rintro e w4 ⟨rfl, hb⟩
  have B4 := Lib.hid (B3.out.trans (hb.mono B3.out.size))
  clear hb
  go_wp2_with fail
  go_loop [4, 5] (fun v i => ∃ (k : Nat) (q : Int), k ≤ T.size ∧ i = .int .i64 k ∧ v = .int .i64 (-q) ∧ Hid (q = hi9 U m (k - f))) (fun _ i => T.size - (intOf i).toNat)
  case atStart => exact ⟨0, 0, by omega, rfl, rfl, Lib.hid (by rw [Nat.zero_sub, ST.out])⟩
  case round =>
    obtain ⟨k, q, hk, rfl, rfl, HQ⟩ := hrel
    obtain ⟨b1, b2⟩ := BD.out (k - f)
    rw [← HQ.out] at b1 b2
    have b3 := HUB.out
    by_cases hlt : k < T.size
    · by_cases hkf : k < f
      · have hneg : z < 0 := by
          have := HFF.out
          split at this
          · assumption
          · omega
        have hk0 : k = 0 := by omega
        subst hk0
        have hne : (((T[0]'hlt).toNat : Int) != 45) = false := by rw [bne_eq_false_iff_eq]; exact HF.out hneg hlt
        have HQ1 : Hid (q = hi9 U m (0 + 1 - f)) := Lib.hid (by rw [HQ.out]; congr 1; omega)
        clear hneg hkf b1 b2 b3 HQ hb0
        go_wp2
        go_round
        case rel => exact ⟨0 + 1, q, by omega, by go_num, rfl, HQ1⟩
        case measure => simp [intOf]; omega
      · have hd := HD.out k hlt (fun hneg => by have := HFF.out; rw [if_pos hneg] at this; omega)
        have hl := Ten.lz_bd U (T.size - 1 - k)
        have hne : (((T[k]'hlt).toNat : Int) != 45) = true := by rw [bne_iff_ne]; omega
        have hs := SU.out (k - f) (by have := HTF.out; omega)
        have hs2 := BD.out (k + 1 - f)
        rw [← HQ.out, show m - 1 - (k - f) = T.size - 1 - k by have := HTF.out; omega, show k - f + 1 = k + 1 - f by omega] at hs
        have hq10 : 10 * q ≤ 9223372036854775808 := by omega
        have hby : ((T[k]'hlt).toNat : Int) < 58 := by omega
        have hby2 : 48 ≤ ((T[k]'hlt).toNat : Int) := by omega
        have hq11 : 10 * q + (((T[k]'hlt).toNat : Int) - 48) ≤ 9223372036854775808 := by omega
        have HQ1 : Hid (10 * q + (((T[k]'hlt).toNat : Int) - 48) = hi9 U m (k + 1 - f)) := Lib.hid (by omega)
        clear hs hd hl hs2 HQ b2 b3 hTf
        go_wp2
        go_round
        case rel => exact ⟨k + 1, _, by omega, by go_num, by congr 1; omega, HQ1⟩
        case measure => simp [intOf]; omega
    · have hq : q = U := by
        rw [HQ.out, ← EN.out]
        congr 1
        have := HTF.out
        omega
      cases sg with
      | true =>
        have hz : -q = z := by rw [hq]; rcases HZZ.out with h | h; exact h.2; exact absurd HSG.out (by rw [decide_eq_false (by omega)]; decide)
        have HZ := Lib.hid hz
        clear hz hq HQ b1 b2 b3
        go_wp2
        go_ret2
        exact ⟨ret_jb HZ.out, B4.out⟩
      | false =>
        have hz : q = z ∧ q ≤ 9223372036854775807 := by rw [hq]; rcases HZZ.out with h | h; exact absurd HSG.out (by rw [decide_eq_true h.1]; decide); exact h.2
        obtain ⟨hz, hz2⟩ := hz
        have HZ := Lib.hid hz
        clear hz hq HQ b2 b3
        go_wp2
        go_ret2
        exact ⟨ret_jb (by first | exact HZ.out | (rw [Int.neg_neg]; exact HZ.out)), B4.out⟩
end Go.Proofs.YtphbfjcaehiboaaGreatDoor
