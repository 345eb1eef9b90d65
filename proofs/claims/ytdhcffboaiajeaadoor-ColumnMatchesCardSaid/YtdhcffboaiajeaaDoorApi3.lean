/-
  What Rest and Kernel return, with their errors.
-/
import Derived.Test.YtdhcffboaiajeaaDoorLows
namespace Go.Proofs.YtdhcffboaiajeaaDoor
open Go.RowKit M

/-- What Rest finds. -/
def rsE (p : Int) (L : List (List Tm)) (c : List Tm) : Int := if chkLs p L = 0 then if chk p c = 0 then lwE L [] else chk p c else chkLs p L
/-- Two columns and an error number are handed back. -/
def GivesRR (p : Int) (L : List (List Tm)) (c : List Tm) (n : Int) (w : World) (e : Ending) (w' : World) : Prop := ∃ v1 v2 r x, e = .returned (.tuple #[v1, v2, .int .i64 n]) ∧ TermsV w' v1 r ∧ TermsV w' v2 x ∧ (n = 0 → IsRest p L c r x) ∧ (n ≠ 0 → r = [] ∧ x = []) ∧ (∀ k, v1.ownBlock = some k → w.heap.size ≤ k) ∧ (∀ k, v2.ownBlock = some k → w.heap.size ≤ k) ∧ Below w.heap.size w w'
theorem GivesRR.err {p : Int} {L : List (List Tm)} {c : List Tm} {n : Int} {w w' : World} (h : Below w.heap.size w w') (hn : n ≠ 0) : GivesRR p L c n w (.returned (.tuple #[.slice none 0 0, .slice none 0 0, .int .i64 n])) w' :=
  ⟨_, _, _, _, rfl, TermsV.nil _, TermsV.nil _, fun e => absurd e hn, fun _ => ⟨rfl, rfl⟩, fun k hk => by simp [Value.ownBlock] at hk, fun k hk => by simp [Value.ownBlock] at hk, h⟩
theorem restA_list (p : Int) (v vc : Value) (L : List (List Tm)) (c : List Tm) (w : World) (tb : Tab w) (hL : ListV w v L) (h : chkLs p L ≠ 0) : Calls Tryd.prog 36 #[.int .i64 p, v, vc] w (GivesRR p L c (chkLs p L) w) := by
  obtain ⟨x, hx⟩ : ∃ x, x = chkLs p L := ⟨_, rfl⟩
  have CA := Lib.hid (checkList_any p v L w tb hL)
  rw [← hx] at CA h ⊢
  have e0 : (x == 0) = false := beq_eq_false_iff_ne.2 h
  have H := Lib.hid h
  clear hx tb hL h
  go_enter Tryd.func36, Tryd.ntmps36
  go_wp2_with fail
  refine Calls.mono (CA.out) ?_
  rintro e w1 ⟨rfl, hb1⟩
  have B1 := Lib.hid (hb1)
  clear hb1
  go_wp2
  go_ret3
  exact GivesRR.err B1.out H.out
theorem restA_c (p : Int) (v vc : Value) (L : List (List Tm)) (c : List Tm) (w : World) (tb : Tab w) (hL : ListV w v L) (hc : TermsV w vc c) (h : chkLs p L = 0) (h' : chk p c ≠ 0) : Calls Tryd.prog 36 #[.int .i64 p, v, vc] w (GivesRR p L c (chk p c) w) := by
  have CA := Lib.hid (checkList_any p v L w tb hL)
  rw [h] at CA
  have CB := Lib.hid (fun W (hb : Below w.heap.size w W) => check_any p vc c W (tb.on hb) (hc.below hb))
  obtain ⟨x, hx⟩ : ∃ x, x = chk p c := ⟨_, rfl⟩
  rw [← hx] at CB h' ⊢
  have e0 : (x == 0) = false := beq_eq_false_iff_ne.2 h'
  have H := Lib.hid h'
  clear hx h h' tb hL hc
  go_enter Tryd.func36, Tryd.ntmps36
  go_wp2_with fail
  refine Calls.mono (CA.out) ?_
  rintro e w1 ⟨rfl, hb1⟩
  have B1 := Lib.hid (hb1)
  clear hb1
  go_wp2_with fail
  refine Calls.mono (CB.out w1 B1.out) ?_
  rintro e w2 ⟨rfl, hb2⟩
  have B2 := Lib.hid (B1.out.trans (hb2.mono B1.out.size))
  clear hb2
  go_wp2
  go_ret3
  exact GivesRR.err B2.out H.out
theorem restA_low (p : Int) (v vc : Value) (L : List (List Tm)) (c : List Tm) (w : World) (tb : Tab w) (hL : ListV w v L) (hc : TermsV w vc c) (h : chkLs p L = 0) (h' : chk p c = 0) (hl : lwE L [] ≠ 0) : Calls Tryd.prog 36 #[.int .i64 p, v, vc] w (GivesRR p L c (lwE L []) w) := by
  obtain ⟨-, -, cL⟩ := chkLs_zero.1 h
  have CA := Lib.hid (checkList_any p v L w tb hL)
  rw [h] at CA
  have CB := Lib.hid (fun W (hb : Below w.heap.size w W) => check_any p vc c W (tb.on hb) (hc.below hb))
  rw [h'] at CB
  have CC := Lib.hid (fun W (hb : Below w.heap.size w W) => checkLows_any p v L W (hL.below hb) cL)
  obtain ⟨x, hx⟩ : ∃ x, x = lwE L [] := ⟨_, rfl⟩
  rw [← hx] at CC hl ⊢
  have e0 : (x == 0) = false := beq_eq_false_iff_ne.2 hl
  have H := Lib.hid hl
  clear hx h h' tb hL hc hl cL
  go_enter Tryd.func36, Tryd.ntmps36
  go_wp2_with fail
  refine Calls.mono (CA.out) ?_
  rintro e w1 ⟨rfl, hb1⟩
  have B1 := Lib.hid (hb1)
  clear hb1
  go_wp2_with fail
  refine Calls.mono (CB.out w1 B1.out) ?_
  rintro e w2 ⟨rfl, hb2⟩
  have B2 := Lib.hid (B1.out.trans (hb2.mono B1.out.size))
  clear hb2
  go_wp2_with fail
  refine Calls.mono (CC.out w2 B2.out) ?_
  rintro e w3 ⟨rfl, hb3⟩
  have B3 := Lib.hid (B2.out.trans (hb3.mono B2.out.size))
  clear hb3
  go_wp2
  go_ret3
  exact GivesRR.err B3.out H.out
set_option maxHeartbeats 1000000 in
theorem restA_ok (p : Int) (v vc : Value) (L : List (List Tm)) (c : List Tm) (w : World) (tb : Tab w) (hL : ListV w v L) (hc : TermsV w vc c) (h : chkLs p L = 0) (h' : chk p c = 0) (hl : lwE L [] = 0) : Calls Tryd.prog 36 #[.int .i64 p, v, vc] w (GivesRR p L c 0 w) := by
  obtain ⟨hlen, hp, cL⟩ := chkLs_zero.1 h
  have hI := (lwE_ind cL).1 hl
  have cc := (chk_zero.1 h').2
  have CA := Lib.hid (checkList_any p v L w tb hL)
  rw [h] at CA
  have CB := Lib.hid (fun W (hb : Below w.heap.size w W) => check_any p vc c W (tb.on hb) (hc.below hb))
  rw [h'] at CB
  have CC := Lib.hid (fun W (hb : Below w.heap.size w W) => checkLows_any p v L W (hL.below hb) cL)
  rw [hl] at CC
  have CE := Lib.hid (fun W (hb : Below w.heap.size w W) => echelonOf_any p v L W (hL.below hb) hI hlen)
  have CR := Lib.hid (fun W (hb : Below w.heap.size w W) B s m S vv (hE : EchV W B s m S vv p L) => rest_any B s m S vv vc p L c W (tb.on hb) hp hE hI hlen (hc.below hb) cc)
  clear h h' tb hL hc hl cL hI hlen hp cc
  go_enter Tryd.func36, Tryd.ntmps36
  go_wp2_with fail
  refine Calls.mono (CA.out) ?_
  rintro e w1 ⟨rfl, hb1⟩
  have B1 := Lib.hid (hb1)
  clear hb1
  go_wp2_with fail
  refine Calls.mono (CB.out w1 B1.out) ?_
  rintro e w2 ⟨rfl, hb2⟩
  have B2 := Lib.hid (B1.out.trans (hb2.mono B1.out.size))
  clear hb2
  go_wp2_with fail
  refine Calls.mono (CC.out w2 B2.out) ?_
  rintro e w3 ⟨rfl, hb3⟩
  have B3 := Lib.hid (B2.out.trans (hb3.mono B2.out.size))
  clear hb3
  go_wp2_with fail
  refine Calls.mono (CE.out w3 B3.out) ?_
  rintro e w4 ⟨s, m, vv, rfl, hE4, hb4⟩
  have B4 := Lib.hid (B3.out.trans (hb4.mono B3.out.size))
  have HE := Lib.hid hE4
  clear hb4 hE4
  go_wp2_with fail
  refine Calls.mono (CR.out w4 B4.out _ _ _ _ _ HE.out) ?_
  rintro e w5 ⟨v1, v2, r, x, rfl, hT1, hT2, hIR, hf1, hf2, hb5⟩
  have R := Lib.hid (show GivesRR p L c 0 w (.returned (.tuple #[v1, v2, .int .i64 0])) w5 from ⟨v1, v2, r, x, rfl, hT1, hT2, fun _ => hIR, fun e => absurd rfl e, fun k hk => Nat.le_trans B4.out.size (hf1 k hk), fun k hk => Nat.le_trans B4.out.size (hf2 k hk), B4.out.trans (hb5.mono B4.out.size)⟩)
  clear hT1 hT2 hIR hf1 hf2 hb5
  go_wp2
  go_ret3
  exact R.out
theorem rest_col (p : Int) (v vc : Value) (L : List (List Tm)) (c : List Tm) (w : World) (tb : Tab w) (hL : ListV w v L) (hc : TermsV w vc c) : Calls Tryd.prog 36 #[.int .i64 p, v, vc] w (GivesRR p L c (rsE p L c) w) := by
  unfold rsE
  by_cases h : chkLs p L = 0
  · rw [if_pos h]
    by_cases h' : chk p c = 0
    · rw [if_pos h']
      by_cases hl : lwE L [] = 0
      · rw [hl]; exact restA_ok p v vc L c w tb hL hc h h' hl
      · exact restA_low p v vc L c w tb hL hc h h' hl
    · rw [if_neg h']
      exact restA_c p v vc L c w tb hL hc h h'
  · rw [if_neg h]
    exact restA_list p v vc L c w tb hL h
/-- A list and an error number are handed back. -/
def GivesLE (R : List (List Tm) → Prop) (n : Int) (w : World) (e : Ending) (w' : World) : Prop := ∃ v Z, e = .returned (.tuple #[v, .int .i64 n]) ∧ ListV w' v Z ∧ (n = 0 → R Z) ∧ (n ≠ 0 → Z = []) ∧ (∀ k, v.ownBlock = some k → w.heap.size ≤ k) ∧ Below w.heap.size w w'
theorem GivesLE.err {R : List (List Tm) → Prop} {n : Int} {w w' : World} (h : Below w.heap.size w w') (hn : n ≠ 0) : GivesLE R n w (.returned (.tuple #[.slice none 0 0, .int .i64 n])) w' :=
  ⟨_, _, rfl, ListV.nil _, fun e => absurd e hn, fun _ => rfl, fun k hk => by simp [Value.ownBlock] at hk, h⟩
theorem kernel_col {q : Nat} [NeZero q] (v : Value) (L : List (List Tm)) (w : World) (tb : Tab w) (hL : ListV w v L) : Calls Tryd.prog 42 #[.int .i64 (q : Int), v] w (GivesLE (IsKer q L) (chkLs q L) w) := by
  have CA := Lib.hid (checkList_any q v L w tb hL)
  by_cases h : chkLs q L = 0
  · obtain ⟨hlen, hp, cL⟩ := chkLs_zero.1 h
    have CK := Lib.hid (fun W (hb : Below w.heap.size w W) => kernel_any v L W (tb.on hb) hp (hL.below hb) cL hlen)
    rw [h] at CA ⊢
    clear h tb hL hlen hp cL
    go_enter Tryd.func42, Tryd.ntmps42
    go_wp2_with fail
    refine Calls.mono CA.out ?_
    rintro e w1 ⟨rfl, hb1⟩
    have B1 := Lib.hid hb1
    clear hb1
    go_wp2_with fail
    refine Calls.mono (CK.out w1 B1.out) ?_
    rintro e w2 ⟨v2, Z, rfl, hZ, hk, hf, hb2⟩
    have R := Lib.hid (show GivesLE (IsKer q L) 0 w (.returned (.tuple #[v2, .int .i64 0])) w2 from ⟨v2, Z, rfl, hZ, fun _ => hk, fun e => absurd rfl e, fun k hk => Nat.le_trans B1.out.size (hf k hk), B1.out.trans (hb2.mono B1.out.size)⟩)
    clear hZ hk hf hb2
    go_wp2
    go_ret2
    exact R.out
  · obtain ⟨x, hx⟩ : ∃ x, x = chkLs q L := ⟨_, rfl⟩
    rw [← hx] at CA h ⊢
    have e0 : (x == 0) = false := beq_eq_false_iff_ne.2 h
    have H := Lib.hid h
    clear hx tb hL h
    go_enter Tryd.func42, Tryd.ntmps42
    go_wp2_with fail
    refine Calls.mono CA.out ?_
    rintro e w1 ⟨rfl, hb1⟩
    have B1 := Lib.hid hb1
    clear hb1
    go_wp2
    go_ret2
    exact GivesLE.err B1.out H.out
end Go.Proofs.YtdhcffboaiajeaaDoor
