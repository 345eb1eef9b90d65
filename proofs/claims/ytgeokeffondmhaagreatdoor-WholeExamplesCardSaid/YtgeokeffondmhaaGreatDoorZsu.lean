/-
  What whole.Sum returns.
  What the law's nines returns: so many digits 9.
  What whole.Int64 returns.
-/
import Derived.Test.YtgeokeffondmhaaGreatDoorZr
import Derived.Test.YtgeokeffondmhaaGreatDoorZs
import Derived.Test.YtgeokeffondmhaaGreatDoorZm
import Derived.Lib.ParseIntB
import Derived.Lib.AtoiErrMem
namespace Go.Proofs.YtgeokeffondmhaaGreatDoor
open Go.RowKit

/-- The sum of the first k numbers. -/
def tot (Z : Nat → Int) : Nat → Int
  | 0 => 0
  | k + 1 => tot Z k + Z k
theorem tot_bd {Z : Nat → Int} : ∀ k, (∀ j, j < k → dn (Z j) ≤ 1000) → (((tot Z k).natAbs : Nat) : Int) ≤ k * Ten.bp 1000
  | 0, _ => by unfold tot; simp
  | k + 1, h => by
    have h1 := tot_bd k (fun j hj => h j (by omega))
    have h2 := dn_lt (x := ((Z k).natAbs : Int)) (by omega)
    rw [dn_abs] at h2
    have h3 := Ten.bp_mono (h k (by omega))
    have h4 : ((k + 1 : Nat) : Int) * Ten.bp 1000 = k * Ten.bp 1000 + Ten.bp 1000 := by rw [Int.natCast_add, Int.add_mul]; simp
    unfold tot
    rw [h4]
    generalize (k : Int) * Ten.bp 1000 = a at *
    omega
theorem tot_nl {Z : Nat → Int} {k : Nat} (hk : k ≤ 1000) (h : ∀ j, j < k → dn (Z j) ≤ 1000) : nl (tot Z k).natAbs ≤ 20000 := by
  have h1 := tot_bd k h
  have hp := Ten.bp_pos 1000
  have h2 : (k : Int) * Ten.bp 1000 ≤ 1000 * Ten.bp 1000 := Int.mul_le_mul_of_nonneg_right (by omega) (by omega)
  have h3 : (1000 : Int) * Ten.bp 1000 < Ten.bp 4 * Ten.bp 1000 := Int.mul_lt_mul_of_pos_right (by unfold Ten.bp; decide) hp
  rw [← Ten.bp_add] at h3
  have h4 : dn ((tot Z k).natAbs : Int) ≤ 4 + 1000 := dn_le (by omega) (by omega) (by omega)
  have h5 := nl_dn (x := ((tot Z k).natAbs : Int)) (by omega)
  omega
set_option maxHeartbeats 2000000 in
set_option maxRecDepth 100000 in
theorem Sum_any (a : Option Addr) (n c m : Nat) (S : Nat → ByteArray) (Z : Nat → Int) (w : World) (_hc : n ≤ c) (hn : n ≤ 1000) (hm : m ≤ n)
    (hr : 0 < n → ∃ g o, a = some ⟨g, o, none⟩ ∧ g < w.heap.size ∧ ∀ j, j < n → w.cell? ⟨g, o + j, none⟩ = some (.string (S j)))
    (hz : ∀ j, j < m → S j = tx (Z j) ∧ dn (Z j) ≤ 1000) (hb : m < n → (S m).size ≤ 9223372036854775807 ∧ isT (S m).data.toList = false) :
    Calls Tryz.prog 36 #[.slice a n c] w (fun e w' => (m = n → GivesX (tot Z n) w e w') ∧ (m < n → GivesEr 1 w e w')) := by
  have HR := Lib.hid hr
  have HZ := Lib.hid hz
  have HB := Lib.hid hb
  have N0 := Lib.hid (NB.new (b := false) 75 (NatV.zero w) w.heap.size rfl)
  have B0 := Lib.hid (alloc_below w (.cells #[.slice none 0 0, .bool false] 75))
  have TN := Lib.hid (fun k (hk : k ≤ m) => tot_nl (Z := Z) (k := k) (by omega) (fun j hj => (hz j (by omega)).2))
  clear hr hz hb
  go_enter Tryz.func36, Tryz.ntmps36
  go_wp2_with fail
  go_loopw [12] (fun i wr => ∃ (k : Nat) (v : Value), k ≤ m ∧ i = .int .i64 k ∧ NB wr w.heap.size v (decide (tot Z k < 0)) (tot Z k).natAbs ∧ Below w.heap.size w wr) (fun i _ => n - (intOf i).toNat)
  case atStart => exact ⟨0, _, by omega, rfl, N0.out, B0.out⟩
  case round =>
    clear N0 B0
    obtain ⟨k, v, hk, rfl, hnb, hbe⟩ := hrel
    have hws := hbe.size
    have NBH := Lib.hid hnb
    obtain ⟨x, nx, rfl, x1, x2, x3, x4, x5⟩ := hnb.n.form
    clear x1 x2 x3 x4 x5
    obtain ⟨sk, hsk⟩ : ∃ s, s = decide (tot Z k < 0) := ⟨_, rfl⟩
    rw [← hsk] at NBH hnb
    have HSK := Lib.hid hsk
    have BE := Lib.hid hbe
    obtain ⟨e0, e1⟩ := hnb.c
    obtain ⟨e2, e3⟩ := hnb.d
    clear hsk hbe hnb
    by_cases hlt : k < n
    · obtain ⟨g, o, rfl, hg, hcl⟩ := HR.out (by omega)
      have hcell := (below_at BE.out (o + k) hg).trans (hcl k hlt)
      clear hcl
      by_cases hkm : k < m
      · obtain ⟨hS, hd⟩ := HZ.out k hkm
        have PA := Lib.hid (parse_tx (Z k) wr hd)
        rw [← hS] at PA
        have hnz := nl_112 (x := ((Z k).natAbs : Int)) (by omega) (by rw [dn_abs]; exact hd)
        have hnt := TN.out k (by omega)
        have PL := Lib.hid (fun W v1 v2 s1 s2 (e1 : s1 = decide (tot Z k < 0)) (e2 : s2 = decide (Z k < 0)) (h1 : NatV W v1 ((tot Z k).natAbs : Int)) (h2 : NatV W v2 ((Z k).natAbs : Int)) => (show Calls Tryz.prog 61 #[.agg #[v1, .bool s1], .agg #[v2, .bool s2]] W (GivesZ (tot Z (k + 1)) W) from by rw [e1, e2]; exact plus_any v1 v2 (tot Z k) (Z k) W h1 h2 (by omega) (by omega)))
        obtain ⟨T, hT⟩ : ∃ T, T = S k := ⟨_, rfl⟩
        rw [← hT] at PA hcell
        clear hS hd hnz hnt hT
        go_wp2_with fail
        refine PA.out.mono ?_
        rintro e w1 ⟨v1, rfl, hv1, hb1⟩
        obtain ⟨s1, hs1⟩ : ∃ s, s = decide (Z k < 0) := ⟨_, rfl⟩
        rw [← hs1]
        have HS1 := Lib.hid hs1
        obtain ⟨y, ny, rfl, x1, x2, x3, x4, x5⟩ := hv1.form
        clear x1 x2 x3 x4 x5
        have hb2 := hb1.trans ((alloc_below w1 (.cells #[.slice y ny ny, .bool s1] 75)).mono hb1.size)
        have N1 := Lib.hid (NBH.out.step hb2)
        have X1 := Lib.hid (NB.new (b := s1) 75 hv1 w1.heap.size rfl)
        have B1 := Lib.hid (BE.out.trans (hb2.mono hws))
        obtain ⟨K1, hK1⟩ : ∃ K1, K1 = w1.heap.size := ⟨_, rfl⟩
        rw [← hK1] at X1
        have HK1 := Lib.hid hK1
        clear hv1 hb1 hb2 hs1 hK1 e0 e1 e2 e3 PA
        obtain ⟨e0, e1⟩ := N1.out.c
        obtain ⟨e2, e3⟩ := N1.out.d
        obtain ⟨f0, f1⟩ := X1.out.c
        obtain ⟨f2, f3⟩ := X1.out.d
        rw [HK1.out] at f0 f1 f2 f3
        go_wp2_with fail
        refine (PL.out _ _ _ _ _ HSK.out HS1.out N1.out.n X1.out.n).mono ?_
        rintro e w3 ⟨v3, rfl, hv3, hb3⟩
        obtain ⟨s3, hs3⟩ : ∃ s, s = decide (tot Z (k + 1) < 0) := ⟨_, rfl⟩
        rw [← hs3]
        have HS3 := Lib.hid hs3
        obtain ⟨q, nq, rfl, x1, x2, x3, x4, x5⟩ := hv3.form
        clear x1 x2 x3 x4 x5
        have N3 := Lib.hid (N1.out.step hb3)
        have V3 := Lib.hid hv3
        have B3 := Lib.hid (B1.out.trans (hb3.mono B1.out.size))
        clear hv3 hb3 hs3 e0 e1 e2 e3 f0 f1 f2 f3 PL
        obtain ⟨e0, e1⟩ := N3.out.c
        obtain ⟨e2, e3⟩ := N3.out.d
        go_wp2
        go_roundw
        case rel => exact ⟨k + 1, _, by omega, by go_num, by rw [← HS3.out]; exact N3.out.put V3.out, below_set (below_set B3.out 0 (Nat.le_refl _) _) 1 (Nat.le_refl _) _⟩
        case measure => simp [intOf] <;> omega
      · have hkm' : k = m := by omega
        obtain ⟨hs, ht⟩ := HB.out (by omega)
        rw [← hkm'] at hs ht
        have HKM := Lib.hid hkm'
        clear hkm'
        have PA := Lib.hid (parse_no (S k) wr hs ht)
        obtain ⟨T, hT⟩ : ∃ T, T = S k := ⟨_, rfl⟩
        rw [← hT] at PA hcell
        clear hs ht hT
        go_wp2_with fail
        refine PA.out.mono ?_
        rintro e w1 ⟨rfl, hb1⟩
        have B1 := Lib.hid ((BE.out.trans (hb1.mono hws)).alloc (BE.out.trans (hb1.mono hws)).size (.cells #[.slice none 0 0, .bool false] 75))
        clear hb1
        go_wp2
        go_ret2
        exact ⟨fun h => absurd h (by have := HKM.out; omega), fun _ => ⟨rfl, B1.out⟩⟩
    · have hkn : k = n := by omega
      have hmn : m = n := by omega
      have TX := Lib.hid (fun W v s (e : s = decide (tot Z k < 0)) (h : NatV W v ((tot Z k).natAbs : Int)) => (show Calls Tryz.prog 72 #[.agg #[v, .bool s]] W (GivesX (tot Z k) W) from by rw [e]; exact text_any v (tot Z k) W h))
      have NN := Lib.hid NBH.out.n
      go_wp2_with fail
      refine (TX.out _ _ _ HSK.out NN.out).mono ?_
      rintro e w1 ⟨rfl, hb1⟩
      have B1 := Lib.hid (BE.out.trans (hb1.mono hws))
      obtain ⟨T, hT⟩ : ∃ T, T = (if dn (tot Z k) ≤ 1000 then tx (tot Z k) else ⟨#[]⟩) := ⟨_, rfl⟩
      obtain ⟨E, hE⟩ : ∃ E : Int, E = (if dn (tot Z k) ≤ 1000 then 0 else 3) := ⟨_, rfl⟩
      rw [← hT, ← hE]
      have HT := Lib.hid hT
      have HE := Lib.hid hE
      have HKN := Lib.hid hkn
      clear hT hE hb1 hkn
      go_wp2
      go_ret2
      exact ⟨fun _ => ⟨by rw [← HKN.out, ← HT.out, ← HE.out]; rfl, B1.out⟩, fun h => absurd h (by omega)⟩
end Go.Proofs.YtgeokeffondmhaaGreatDoor
namespace Go.Proofs.YtgeokeffondmhaaGreatDoor
open Go.RowKit

def nine8 (k : Nat) : List Value := List.replicate k (Value.int .u8 57)
theorem nine8_succ (k : Nat) : nine8 (k + 1) = nine8 k ++ [.int .u8 57] := List.replicate_succ'
theorem conv9 (n g c : Nat) (w : World) (h : ∀ j, j < n → w.cell? ⟨g, j, none⟩ = (nine8 n)[j]?) :
    (convert 87 22 (.slice (some ⟨g, 0, none⟩) n c)).run Tryz.prog w = .ok (.string (strOfNums (List.replicate n 57))) w := by
  rw [run_convert_bytes_arg w 87 5 undU8s undU8 g 0 n c (List.replicate n 57) (by simp) (fun j hj => by
    rw [Nat.zero_add, h j hj]
    unfold nine8
    simp [List.getD, hj]) _ undInt]
/-- The number of n digits 9. -/
theorem nines_tx {n : Nat} (h : 1 ≤ n) : strOfNums (List.replicate n 57) = tx (Ten.bp n - 1) := by
  have hp := Ten.bp_pos n
  have h10 := Ten.bp_mono (show 1 ≤ n by omega)
  rw [Ten.bp_one] at h10
  obtain ⟨z, hz⟩ : ∃ z, z = Ten.bp n - 1 := ⟨_, rfl⟩
  have hd : dn z = n := by
    rw [dn_ten (by omega)]
    obtain ⟨m, rfl⟩ : ∃ m, n = m + 1 := ⟨n - 1, by omega⟩
    refine Ten.nl_eq ?_ (by omega)
    rw [hz, Ten.bp_succ]
    have := Ten.bp_pos m
    omega
  have hs := row8_str false (z := z) (by omega)
  rw [hd] at hs
  simp only [Bool.false_eq_true, if_false, List.nil_append] at hs
  rw [← hz, ← hs]
  congr 1
  apply List.ext_getElem (by simp)
  intro j h1 h2
  simp at h1
  simp only [List.getElem_replicate, List.getElem_map, List.getElem_range]
  unfold db Ten.lz
  have e : z / Ten.bp (n - 1 - j) = Ten.bp (j + 1) - 1 := by
    rw [hz, show n = (n - 1 - j) + (j + 1) by omega, Ten.bp_add]
    rw [show n - 1 - j + (j + 1) - 1 - j = n - 1 - j by omega]
    have hq := Ten.bp_pos (n - 1 - j)
    generalize Ten.bp (n - 1 - j) = B at *
    rw [show B * Ten.bp (j + 1) - 1 = (B - 1) + B * (Ten.bp (j + 1) - 1) by rw [Int.mul_sub]; omega, Int.add_mul_ediv_left _ _ (by omega), Int.ediv_eq_zero_of_lt (by omega) (by omega)]
    omega
  rw [e, Ten.bp_succ]
  omega
set_option maxHeartbeats 2000000 in
set_option maxRecDepth 100000 in
theorem nines_any (n : Nat) (w : World) (h1 : 1 ≤ n) (h2 : n ≤ 1000000) :
    Calls Tryz.prog 44 #[.int .i64 n] w (GivesY (tx (Ten.bp n - 1)) w) := by
  obtain ⟨i8, hi, hz0, hz1, hz2⟩ := info_parts infoU8
  have hT := nines_tx h1
  obtain ⟨T, hTe⟩ : ∃ T, T = tx (Ten.bp n - 1) := ⟨_, rfl⟩
  rw [← hTe] at hT ⊢
  have HT := Lib.hid hT
  have hown0 : w.ownsRow w.heap.size 5 1 (.slice none 0 0) 0 (nine8 0) := World.ownsRow_nil _ _ _ _
  clear hT hTe
  go_enter Tryz.func44, Tryz.ntmps44
  go_wp2_with fail
  go_loopw [3, 4] (fun v i wr => ∃ k : Nat, k ≤ n ∧ i = .int .i64 k ∧ wr.ownsRow w.heap.size 5 1 v k (nine8 k) ∧ Below w.heap.size w wr) (fun _ i _ => n - (intOf i).toNat)
  case atStart => exact ⟨0, by omega, rfl, hown0, Below.refl _ _⟩
  case round =>
    clear hown0
    obtain ⟨k, hk, rfl, hown, hb⟩ := hrel
    have hws := hb.size
    have hlen : (nine8 k).length = k := by unfold nine8; simp
    by_cases hlt : k < n
    · have hsucc := Lib.hid (nine8_succ k)
      go_wp2_with (at_builtin; refine wpList_append_own _ rfl _ _ 87 rfl w.heap.size 5 i8 (.int .u8 0) 1 1 undU8s hi hz0 hz1 hz2 rfl (by decide) _ _ _ rfl (hown.alloc _) ⟨wr.heap.size, 0, none⟩ 1 1 [.int .u8 57] rfl rfl ?c1 ?c2 ?c3 ?c4 ?c5 ?_)
      case c1 =>
        intro q u hq
        match q, hq with
        | 0, hq => simp at hq; subst hq; simp [Addr.add]
      case c2 => intro u hu; simp at hu; subst hu; rfl
      case c3 => unfold maxLen; omega
      case c4 => omega
      case c5 => simp; omega
      · intro v' w1 hown' hgrow _
        have R1 : w1.ownsRow w.heap.size 5 1 v' (k + 1) (nine8 (k + 1)) := by
          rw [hsucc.out]
          exact hown'
        have R2 : Below w.heap.size w w1 := (hb.alloc hb.size _).grown hgrow (by simp; omega) (own8_ge hown)
        clear hown' hgrow hown hb
        go_wp2
        go_roundw
        case rel => exact ⟨k + 1, by omega, by go_num, R1, R2⟩
        case measure => simp [intOf] <;> omega
    · obtain rfl : k = n := by omega
      obtain ⟨g', cap, hv, _, _⟩ := hown.form (by omega)
      subst hv
      have hcv := conv9 k g' cap wr (fun j hj => hown.cellAt j (by omega))
      rw [HT.out] at hcv
      have HB := Lib.hid hb
      clear hown hlen hws hb
      go_wp2
      go_ret
      exact ⟨rfl, HB.out⟩
end Go.Proofs.YtgeokeffondmhaaGreatDoor
namespace Go.Proofs.YtgeokeffondmhaaGreatDoor
open Go.RowKit
open Go.Lib

def fv (acc : Nat) (d : List UInt8) : Nat := d.foldl (fun a c => 10 * a + (c.toNat - 48)) acc
theorem fv_ge : ∀ (d : List UInt8) (acc : Nat), acc ≤ fv acc d := by
  intro d
  induction d with
  | nil => intro acc; exact Nat.le_refl _
  | cons c d ih =>
    intro acc
    have := ih (10 * acc + (c.toNat - 48))
    show acc ≤ fv (10 * acc + (c.toNat - 48)) d
    omega
theorem pum (M : Nat) (hM : M = 18446744073709551615) : ∀ (d : List UInt8) (acc : Nat), (∀ c ∈ d, isDig c = true) → acc ≤ M → parseUintM M acc d = if fv acc d ≤ M then .ok (fv acc d) else .range := by
  intro d
  induction d with
  | nil =>
    intro acc _ h
    show NumEnd.ok acc = if acc ≤ M then _ else _
    rw [if_pos h]
    rfl
  | cons c d ih =>
    intro acc hd h
    have hc := hd c (by simp)
    unfold isDig at hc
    simp at hc
    unfold parseUintM
    rw [if_pos hc]
    have hg := fv_ge d (10 * acc + (c.toNat - 48))
    have e : fv acc (c :: d) = fv (10 * acc + (c.toNat - 48)) d := rfl
    rw [e]
    by_cases h1 : 1844674407370955162 ≤ acc
    · rw [if_pos h1, if_neg (by omega)]
    · rw [if_neg h1, Nat.mul_comm acc 10]
      by_cases h2 : M < 10 * acc + (c.toNat - 48)
      · rw [if_pos h2, if_neg (by omega)]
      · rw [if_neg h2]
        exact ih _ (fun x hx => hd x (by simp [hx])) (by omega)
theorem pub (n : Nat) : parseUintB 64 (decDigits n) = if n ≤ 18446744073709551615 then .ok n else .range := by
  unfold parseUintB
  rw [if_neg (dec_ne n), show 2 ^ 64 - 1 = 18446744073709551615 from rfl, pum _ rfl _ 0 (dec_all n) (by omega)]
  have : fv 0 (decDigits n) = n := vald_dec n
  rw [this]
theorem pib (z : Int) : parseIntB 64 (itoa z) = if -9223372036854775808 ≤ z ∧ z ≤ 9223372036854775807 then .ok z else .range := by
  unfold itoa
  by_cases h : z < 0
  · rw [if_pos h]
    unfold parseIntB
    have e45 : (45 : UInt8).toNat = 45 := rfl
    simp only [e45]
    rw [if_pos (by simp)]
    rw [pub]
    by_cases h1 : z.natAbs ≤ 18446744073709551615
    · rw [if_pos h1]
      simp only
      rw [if_neg (by simp)]
      by_cases h2 : 9223372036854775808 < z.natAbs
      · rw [if_pos ⟨trivial, h2⟩, if_neg (by omega)]
      · rw [if_neg (fun e => h2 e.2), if_pos trivial, if_pos (by omega)]
        congr 1
        omega
    · rw [if_neg h1, if_neg (by omega)]
  · rw [if_neg h]
    unfold parseIntB
    cases hd : decDigits z.toNat with
    | nil => exact absurd hd (dec_ne _)
    | cons c r =>
      have hc := dec_all z.toNat c (by rw [hd]; simp)
      unfold isDig at hc
      simp at hc
      have c1 : ¬ (c.toNat = 43 ∨ c.toNat = 45) := by omega
      have c2 : ¬ c.toNat = 45 := by omega
      simp only
      rw [if_neg c1, ← hd, pub]
      by_cases h1 : z.toNat ≤ 18446744073709551615
      · rw [if_pos h1]
        simp only
        by_cases h2 : 9223372036854775808 ≤ z.toNat
        · rw [if_pos ⟨c2, h2⟩, if_neg (by omega)]
        · rw [if_neg (fun e => h2 e.2), if_neg (fun e => c2 e.1), if_neg c2, if_pos (by omega)]
          congr 1
          omega
      · rw [if_neg h1, if_neg (by omega)]
/-- The call hands back an int64 and a bool. -/
def GivesJB (z : Int) (b : Bool) (w : World) (e : Ending) (w' : World) : Prop := e = .returned (.tuple #[.int .i64 z, .bool b]) ∧ Below w.heap.size w w'
theorem Int64_bad (s : ByteArray) (w : World) (hs : s.size ≤ 9223372036854775807) (h : isT s.data.toList = false) :
    Calls Tryz.prog 9 #[.string s] w (GivesJB 0 false w) := by
  have VB := Lib.hid (Valid_bad s w hs h)
  clear h
  go_enter Tryz.func9, Tryz.ntmps9
  go_wp2_with fail
  refine VB.out.mono ?_
  rintro e w' ⟨rfl, rfl⟩
  go_wp2
  go_ret2
  exact ⟨rfl, Below.refl _ _⟩
theorem Int64_tx (z : Int) (w : World) (h1 : -9223372036854775808 ≤ z) (h2 : z ≤ 9223372036854775807) :
    Calls Tryz.prog 9 #[.string (tx z)] w (GivesJB z true w) := by
  have hd := dn_word h1 h2
  have hv := Valid_tx z w hd
  have hp := Tryz.strconv_ParseInt_10_at64_ok (tx z) (by have := tx_le hd; omega) z (by rw [tx_list, pib, if_pos ⟨h1, h2⟩]) w
  obtain ⟨T, hT⟩ : ∃ T, T = tx z := ⟨_, rfl⟩
  rw [← hT] at hv hp ⊢
  have VT := Lib.hid hv
  have PI := Lib.hid hp
  clear hv hp hT hd h1 h2
  go_enter Tryz.func9, Tryz.ntmps9
  go_wp2_with fail
  refine VT.out.mono ?_
  rintro e w' ⟨rfl, rfl⟩
  go_wp2_with fail
  refine PI.out.mono ?_
  rintro e w' ⟨rfl, hw⟩
  have hb : Below w.heap.size w w' := by
    rcases hw with rfl | ⟨t, rfl⟩
    · exact Below.refl _ _
    · exact bytesWorld_below _ _ _
  have HB := Lib.hid hb
  clear hw hb
  go_wp2
  go_ret2
  exact ⟨rfl, HB.out⟩
theorem Int64_out (z : Int) (w : World) (hd : dn z ≤ 1000) (h : ¬ (-9223372036854775808 ≤ z ∧ z ≤ 9223372036854775807)) (tp : TypeId) (p : Value) (hvar : w.var? Tryz.prog "strconv.ErrRange" = some #[.iface tp p]) :
    Calls Tryz.prog 9 #[.string (tx z)] w (GivesJB 0 false w) := by
  have hv := Valid_tx z w hd
  have hp := Tryz.strconv_ParseInt_10_at64_range_var (tx z) (by have := tx_le hd; omega) (by rw [tx_list, pib, if_neg h]) tp p w hvar
  obtain ⟨T, hT⟩ : ∃ T, T = tx z := ⟨_, rfl⟩
  rw [← hT] at hv hp ⊢
  have VT := Lib.hid hv
  have PI := Lib.hid hp
  clear hv hp hT hd h hvar
  go_enter Tryz.func9, Tryz.ntmps9
  go_wp2_with fail
  refine VT.out.mono ?_
  rintro e w' ⟨rfl, rfl⟩
  go_wp2_with fail
  refine PI.out.mono ?_
  rintro e w' ⟨N, rfl, _, _, hb⟩
  have HB := Lib.hid hb
  clear hb
  go_wp2
  go_ret2
  exact ⟨rfl, HB.out⟩
end Go.Proofs.YtgeokeffondmhaaGreatDoor
