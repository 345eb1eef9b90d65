/-
  What Parse returns.
-/
import Derived.Test.YtkhebidmfjbhaaaGreatDoorZ36
import Derived.Deep.RegionHeld3
import Derived.Deep.Cut
namespace Go.Proofs.YtkhebidmfjbhaaaGreatDoor
open Go.RowKit

/-- What a number as written is: numerator and denominator. -/
def pnum (mn : Bool) (mk : Int) (fr bk : ByteArray) : Int := if mk = 47 then pm mn (vald fr.data.toList) else pm mn (vald (fr ++ bk).data.toList)
def pden (mk : Int) (bk : ByteArray) : Int := if mk = 47 then (vald bk.data.toList : Nat) else Ten.bp bk.size
theorem repeatL_48 : ∀ k : Nat, Lib.repeatL [48] k = List.replicate k (48 : UInt8)
  | 0 => rfl
  | k + 1 => by
    rw [List.replicate_succ, ← repeatL_48 k]
    rfl
theorem vald_ones : ∀ k : Nat, vald (49 :: List.replicate k (48 : UInt8)) = 10 ^ k
  | 0 => rfl
  | k + 1 => by
    have e : (49 :: List.replicate (k + 1) (48 : UInt8)) = (49 :: List.replicate k (48 : UInt8)) ++ [48] := by
      rw [List.replicate_succ', List.cons_append]
    rw [e, vald_snoc, vald_ones k, Nat.pow_succ]
    show 10 * 10 ^ k + 0 = _
    omega
theorem size_list (s : ByteArray) : s.data.toList.length = s.size := rfl
theorem pm_abs (b : Bool) (n : Nat) : (pm b n).natAbs = n := by unfold pm; split <;> omega
theorem digs_dn {D : ByteArray} (h : Dg D.data.toList) : dn (vald D.data.toList : Nat) ≤ D.size := by
  have h1 := (vald_lt _ D.data.toList rfl h.2).1
  have h2 : 1 ≤ D.size := by
    rcases Nat.eq_zero_or_pos D.size with e | e
    · exact absurd (List.eq_nil_of_length_eq_zero (show D.data.toList.length = 0 from e)) h.1
    · exact e
  exact dn_of_le h2 (by rw [Int.natAbs_natCast]; exact h1)
theorem pm_dn (b : Bool) (n : Nat) : dn (pm b n) = dn (n : Int) := by unfold dn; rw [pm_abs]; simp
theorem RdI.of {D : ByteArray} (b : Bool) (h : Dg D.data.toList) (hs : D.size ≤ 5000) : RdI D b (pm b (vald D.data.toList)) := fun W => Read_any D _ b W (digs_of h) hs
theorem Wr.size {s : ByteArray} {mn : Bool} {mk : Int} {fr bk : ByteArray} (h : Wr s mn mk fr bk) : fr.size + bk.size ≤ s.size := by
  have e := congrArg List.length h.form
  rw [List.length_append, List.length_append, size_list, size_list] at e
  rcases h.mark with ⟨rfl, rfl⟩ | ⟨m1, d1⟩
  · have : (⟨#[]⟩ : ByteArray).size = 0 := rfl
    omega
  · rw [(tl_mark m1).1, List.length_cons, size_list] at e
    omega
theorem Dg.app {D E : ByteArray} (h : Dg D.data.toList) (h' : ∀ c, c ∈ E.data.toList → isDig c = true) : Dg (D ++ E).data.toList := by
  rw [ByteArray.data_append, Array.toList_append]
  refine ⟨fun e => h.1 (List.append_eq_nil_iff.1 e).1, fun c hc => ?_⟩
  rcases List.mem_append.1 hc with k | k
  · exact h.2 c k
  · exact h' c k
theorem Wr.bd {s : ByteArray} {mn : Bool} {mk : Int} {fr bk : ByteArray} (h : Wr s mn mk fr bk) : ∀ c, c ∈ bk.data.toList → isDig c = true := by
  rcases h.mark with ⟨rfl, rfl⟩ | ⟨m1, d1⟩
  · intro c hc; cases hc
  · exact d1.2
/-- How long they are. -/
theorem Wr.dn {s : ByteArray} {mn : Bool} {mk : Int} {fr bk : ByteArray} (h : Wr s mn mk fr bk) : dn (pnum mn mk fr bk) ≤ s.size ∧ dn (pden mk bk) ≤ s.size + 1 := by
  have hs := h.size
  unfold pnum pden
  split
  · rename_i hm
    have hb : Dg bk.data.toList := by
      rcases h.mark with ⟨e, -⟩ | ⟨-, d⟩
      · omega
      · exact d
    have h1 := digs_dn h.fd
    have h2 := digs_dn hb
    rw [pm_dn]
    exact ⟨by omega, by omega⟩
  · have h1 := digs_dn (h.fd.app h.bd)
    have h2 : (fr ++ bk).size = fr.size + bk.size := ByteArray.size_append
    rw [pm_dn]
    refine ⟨by omega, dn_of_le (by omega) ?_⟩
    have h3 := Ten.bp_pos bk.size
    rw [Int.natAbs_of_nonneg (by omega)]
    refine Int.lt_of_lt_of_le ?_ (Ten.bp_mono (show bk.size + 1 ≤ s.size + 1 by omega))
    rw [Ten.bp_succ]
    omega
theorem nlp {z : Int} {k : Nat} (h : Go.Proofs.YtkhebidmfjbhaaaGreatDoor.dn z ≤ k) (hk : k ≤ 5000) : nl z.natAbs ≤ 20000 := Nat.le_trans (nl_of_dn (k := 5000) (by omega)) (by omega)
theorem value_any (s : ByteArray) (mn : Bool) (mk : Int) (fr bk : ByteArray) (w : World) (h : Wr s mn mk fr bk) (hs : s.size ≤ 4000) (h0 : pden mk bk ≠ 0) :
    Calls Tryz.prog 109 #[.agg #[.bool mn, .int .i32 mk, .string fr, .string bk]] w (GivesRe (Rat.divInt (pnum mn mk fr bk) (pden mk bk)).num (Rat.divInt (pnum mn mk fr bk) (pden mk bk)).den 0 w) := by
  have hz := h.size
  obtain ⟨d1, d2⟩ := h.dn
  have x9 := nlp d1 (by omega)
  have y9 := nlp d2 (by omega)
  by_cases hm : mk = 47
  · have hb : Dg bk.data.toList := by
      rcases h.mark with ⟨e, -⟩ | ⟨-, d⟩
      · omega
      · exact d
    have e1 : pnum mn mk fr bk = pm mn (vald fr.data.toList) := by unfold pnum; rw [if_pos hm]
    have e2 : pden mk bk = pm false (vald bk.data.toList) := by unfold pden; rw [if_pos hm]; rfl
    exact value_frac mn mk fr bk _ _ _ w hm (by rw [e2]; exact RdI.of false hb (by omega)) (by rw [e1]; exact RdI.of mn h.fd (by omega)) rfl h0 x9 y9
  · have e1 : pnum mn mk fr bk = pm mn (vald (fr ++ bk).data.toList) := by unfold pnum; rw [if_neg hm]
    have h2 : (fr ++ bk).size = fr.size + bk.size := ByteArray.size_append
    obtain ⟨T, hT⟩ : ∃ T : ByteArray, T = ⟨(List.replicate bk.size (48 : UInt8)).toArray⟩ := ⟨_, rfl⟩
    have hTs : T.size = bk.size := by rw [hT]; show (List.replicate bk.size (48 : UInt8)).toArray.size = _; simp
    have hTl : ((⟨#[49]⟩ : ByteArray) ++ T).data.toList = 49 :: List.replicate bk.size (48 : UInt8) := by rw [ByteArray.data_append, Array.toList_append, hT]; rfl
    have e2 : pden mk bk = pm false (vald ((⟨#[49]⟩ : ByteArray) ++ T).data.toList) := by
      unfold pden
      rw [if_neg hm, hTl, vald_ones]
      unfold Ten.bp pm
      simp
    have h3 : ((⟨#[49]⟩ : ByteArray) ++ T).size = 1 + T.size := ByteArray.size_append
    have hTd : Dg ((⟨#[49]⟩ : ByteArray) ++ T).data.toList := by
      rw [hTl]
      refine ⟨by simp, fun c hc => ?_⟩
      rcases List.mem_cons.1 hc with rfl | hc
      · decide
      · rw [(List.mem_replicate.1 hc).2]; decide
    refine value_dec mn mk fr bk T _ _ _ w hm (by omega) (by omega) (fun W => ?_) (by omega) (by rw [e2]; exact RdI.of false hTd (by omega)) (by rw [e1]; exact RdI.of mn (h.fd.app h.bd) (by omega)) rfl h0 x9 y9
    have hr := Tryz.strings_Repeat ⟨#[48]⟩ bk.size W (by omega) (by show 1 * bk.size ≤ _; omega)
    rw [show (⟨#[48]⟩ : ByteArray).data.toList = [48] from rfl, repeatL_48, ← hT] at hr
    exact hr

set_option maxHeartbeats 4000000 in
set_option maxRecDepth 100000 in
theorem Parse_no (s : ByteArray) (w : World) (hs : s.size ≤ 4000) (h : ∀ mn mk fr bk, ¬ Wr s mn mk fr bk) : Calls Tryz.prog 49 #[.string s] w (GivesSn ⟨#[]⟩ 2 w) := by
  have h1 : ¬ 4000 < (s.size : Int) := by omega
  have h2 : decide (4000 < (s.size : Int)) = false := decide_eq_false h1
  have RD := Lib.hid (read_any s w (by omega))
  have HN := Lib.hid h
  clear h
  go_enter Tryz.func49, Tryz.ntmps49
  go_wp2_with fail
  refine RD.out.mono ?_
  rintro e w1 ⟨mn, mk, fr, bk, ok, rfl, hb1, hy, hn⟩
  cases ok with
  | true => exact absurd (hy rfl) (HN.out _ _ _ _)
  | false =>
    have B1 := Lib.hid (hb1.alloc hb1.size (.cells #[.bool mn, .int .i32 mk, .string fr, .string bk] 95))
    clear hb1 hy hn
    go_wp2
    go_ret2
    exact ⟨rfl, B1.out⟩
set_option maxHeartbeats 4000000 in
set_option maxRecDepth 100000 in
theorem Parse_of (s : ByteArray) (mn : Bool) (mk : Int) (fr bk : ByteArray) (Q : Rat) (w : World) (tb : Tb w) (hs : s.size ≤ 4000) (hw : Wr s mn mk fr bk) (h0 : pden mk bk ≠ 0) (hQ : Q = Rat.divInt (pnum mn mk fr bk) (pden mk bk)) : Calls Tryz.prog 49 #[.string s] w (GivesQx Q w) := by
  have h1 : ¬ 4000 < (s.size : Int) := by omega
  have h2 : decide (4000 < (s.size : Int)) = false := decide_eq_false h1
  have RD := Lib.hid (read_any s w (by omega))
  have HW := Lib.hid hw
  have VA := Lib.hid (fun W => value_any s mn mk fr bk W hw hs h0)
  rw [← hQ] at VA
  have TB := Lib.hid tb
  clear hw h0 hQ tb
  go_enter Tryz.func49, Tryz.ntmps49
  go_wp2_with fail
  refine RD.out.mono ?_
  rintro e w1 ⟨mn1, mk1, fr1, bk1, ok, rfl, hb1, hy, hn⟩
  cases ok with
  | false => exact absurd HW.out (hn rfl mn mk fr bk)
  | true =>
    obtain ⟨rfl, rfl, rfl, rfl⟩ := (hy rfl).one HW.out
    have B1 := Lib.hid (hb1.alloc hb1.size (.cells #[.bool mn1, .int .i32 mk1, .string fr1, .string bk1] 95))
    obtain ⟨a0, a1, a2, a3⟩ := (Wb.new w1 mn1 mk1 fr1 bk1 95 w1.heap.size rfl).cells
    clear hb1 hy hn
    go_wp2_with fail
    refine (VA.out _).mono ?_
    rintro e w2 ⟨p2, v2, o2, u2, rfl, hv2, hu2, hb2⟩
    obtain ⟨r2s, hs2⟩ : ∃ sgn, sgn = decide (Q.num < 0) := ⟨_, rfl⟩
    obtain ⟨q2s, ht2⟩ : ∃ sgn, sgn = decide ((Q.den : Int) < 0) := ⟨_, rfl⟩
    rw [← hs2, ← ht2]
    have hi := And.intro hv2 hs2
    have hj := And.intro hu2 ht2
    obtain ⟨r2t, r2a, r2n, rfl, rfl, -, -, -, -, -, -⟩ := hv2.form
    obtain ⟨q2t, q2a, q2n, rfl, rfl, -, -, -, -, -, -⟩ := hu2.form
    have B2 := Lib.hid (B1.out.trans (hb2.mono B1.out.size))
    have B3 := Lib.hid (B2.out.alloc B2.out.size (.cells #[.int .u64 r2t, .slice r2a r2n r2n, .bool r2s, .int .u64 q2t, .slice q2a q2n q2n, .bool q2s] 76))
    have I1 := Lib.hid (IntV.below hi (alloc_below w2 (.cells #[.int .u64 r2t, .slice r2a r2n r2n, .bool r2s, .int .u64 q2t, .slice q2a q2n q2n, .bool q2s] 76)))
    have I2 := Lib.hid (IntV.below hj (alloc_below w2 (.cells #[.int .u64 r2t, .slice r2a r2n r2n, .bool r2s, .int .u64 q2t, .slice q2a q2n q2n, .bool q2s] 76)))
    clear hi hj hv2 hu2 hb2 hs2 ht2
    go_wp2_with fail
    refine Calls.mono (ratext_any _ _ _ _ _ _ Q _ (TB.out.below B3.out) I1.out I2.out) ?_
    rintro e w5 ⟨rfl, hb5⟩
    obtain ⟨T, hT⟩ : ∃ T, T = (if dn Q.num ≤ 1000 ∧ dn Q.den ≤ 1000 then qx Q else ⟨#[]⟩) := ⟨_, rfl⟩
    obtain ⟨E, hE⟩ : ∃ E : Int, E = (if dn Q.num ≤ 1000 ∧ dn Q.den ≤ 1000 then 0 else 3) := ⟨_, rfl⟩
    rw [← hT, ← hE]
    have HT := Lib.hid hT
    have HE := Lib.hid hE
    have B5 := Lib.hid (B3.out.trans (hb5.mono B3.out.size))
    clear hT hE hb5
    go_wp2
    go_ret2
    exact ⟨by rw [← HT.out, ← HE.out]; rfl, B5.out⟩
end Go.Proofs.YtkhebidmfjbhaaaGreatDoor
