/-
  What spanOf and Rank return.
-/
import Derived.Test.YtdhcffboaiajeaaDoorApi3
namespace Go.Proofs.YtdhcffboaiajeaaDoor
open Go.RowKit M
open Go.Maps

/-- An echelon of the call's own that spans what L spans. -/
def GivesSp (q : Nat) [NeZero q] (L : List (List Tm)) (w : World) (e : Ending) (w' : World) : Prop := ∃ s m v E, e = .returned (.pointer (some ⟨s, 0, none⟩)) ∧ EchV w' w.heap.size s m [s, m] v q E ∧ Ind q E ∧ Same q E L ∧ E.length ≤ L.length ∧ Below w.heap.size w w'
theorem Same.nil {q : Nat} [NeZero q] (L : List (List Tm)) : Same q [] (L.take 0) := by rw [List.take_zero]; exact Same.refl _
theorem span_more {q : Nat} [NeZero q] {L E : List (List Tm)} {k : Nat} {r x : List Tm} (hI : Ind q E) (hS : Same q E (L.take k)) (hk : k < L.length) (hc : Col q (L.getD k [])) (h : IsRest q E (L.getD k []) r x) (h0 : r ≠ []) : Ind q (E ++ [r]) ∧ Same q (E ++ [r]) (L.take (k + 1)) := by
  refine ⟨hI.snoc h.col h0 h.zero, ?_⟩
  rw [take_snoc hk]
  refine (h.same hc).trans ⟨fun d hd => ?_, fun d hd => ?_⟩
  · rcases List.mem_append.1 hd with g | g
    · exact (hS.1 d g).append
    · rw [List.mem_singleton.1 g]; exact Spn.of_mem (by simp)
  · rcases List.mem_append.1 hd with g | g
    · exact (hS.2 d g).append
    · rw [List.mem_singleton.1 g]; exact Spn.of_mem (by simp)
theorem span_same {q : Nat} [NeZero q] {L E : List (List Tm)} {k : Nat} {x : List Tm} (F : Fld q) (hI : Ind q E) (hS : Same q E (L.take k)) (hk : k < L.length) (hc : Col q (L.getD k [])) (h : IsRest q E (L.getD k []) [] x) : Same q E (L.take (k + 1)) := by
  have hs : Spn q E (L.getD k []) := (h.nil_iff hI F hc).1 rfl
  rw [take_snoc hk]
  refine ⟨fun d hd => (hS.1 d hd).append, fun d hd => ?_⟩
  rcases List.mem_append.1 hd with g | g
  · exact hS.2 d g
  · rw [List.mem_singleton.1 g]; exact hs
set_option maxHeartbeats 4000000 in
set_option maxRecDepth 100000 in
theorem spanOf_any {q : Nat} [NeZero q] (v : Value) (L : List (List Tm)) (w : World) (tb : Tab w) (hp : pr (q : Int) = true) (hL : ListV w v L) (cL : Cols q L) (hlen : L.length ≤ 1024) : Calls Tryd.prog 71 #[.int .i64 (q : Int), v] w (GivesSp q L w) := by
  have F := fld_of hp
  have hpb := pr_bd hp
  have T := Lib.hid tb
  have EO := Lib.hid (echelonOf_any q (.slice none 0 0) [] w (ListV.nil w) (Ind.nil q) (by simp))
  obtain ⟨a, n, rfl, a1, a2, a3⟩ := hL
  unfold maxLen at a2
  clear tb
  go_enter Tryd.func71, Tryd.ntmps71
  go_wp2_with fail
  refine Calls.mono EO.out ?_
  rintro e w1 ⟨s, m, v0, rfl, hE1, hB1⟩
  go_wp2
  go_loopw [14] (fun i wr => ∃ (k : Nat) (E : List (List Tm)) (v : Value), k ≤ L.length ∧ i = .int .i64 k ∧ EchV wr w.heap.size s m [s, m] v q E ∧ Ind q E ∧ Same q E (L.take k) ∧ E.length ≤ k ∧ Below w.heap.size w wr) (fun i _ => L.length - (intOf i).toNat)
  case atStart => exact ⟨0, [], v0, Nat.zero_le _, rfl, hE1, Ind.nil q, Same.nil L, Nat.le_refl _, hB1⟩
  case round =>
    clear hE1 hB1
    obtain ⟨k, E, vv, hk, rfl, hE, hI, hS, hn, hB⟩ := hrel
    by_cases hlt : k < L.length
    · obtain ⟨g, o, rfl, hg, hc⟩ := a3 (by omega)
      obtain ⟨u, d0, hT⟩ := hc k hlt
      replace d0 := (hB.cell (p := ⟨g, o + k, none⟩) hg).trans d0
      have hgk : L.getD k [] = L[k] := by rw [List.getD_eq_getElem?_getD, List.getElem?_eq_getElem hlt]; rfl
      have hcol := cL.at_ k
      rw [← hgk] at hT
      have Tr := Lib.hid (T.out.on hB)
      have RC := Lib.hid (rest_any w.heap.size s m _ vv u q E (L.getD k []) wr Tr.out hp hE hI (by omega) (hT.below hB) hcol)
      have l1 := hE.lt
      have l2 := hE.map.lt
      have l3 : ∀ g, vv.ownBlock = some g → g < wr.heap.size := fun g e => (hE.row.lt g e).2
      have HE := Lib.hid hE
      have HI := Lib.hid hI
      have HS := Lib.hid hS
      have HB := Lib.hid hB
      have HC := Lib.hid hcol
      clear hc a3 hT hB hE hI hS hcol hgk
      go_wp2_with fail
      refine Calls.mono RC.out ?_
      rintro e w2 ⟨v1, v2, r, x, rfl, hT1, hT2, hIR, hf1, hf2, hb2⟩
      obtain ⟨r1a, r1n, rfl⟩ := slice_of hT1
      have HE2 := Lib.hid (HE.out.below hb2)
      have HB2 := Lib.hid (HB.out.trans (hb2.mono HB.out.size))
      have HT1 := Lib.hid hT1
      have HIR := Lib.hid hIR
      have HF1 := Lib.hid hf1
      have lk : wr.heap.size ≤ w2.heap.size := hb2.size
      clear hT1 hT2 hIR hf1 hf2 hb2 RC
      by_cases h0 : r = []
      · subst h0
        go_wp2
        exact ⟨⟨k + 1, E, vv, by omega, by go_num, HE2.out, HI.out, span_same F HI.out HS.out hlt HC.out HIR.out, by omega, HB2.out⟩, by simp [intOf]; omega⟩
      · have hr0 : 0 < r.length := List.length_pos_iff.2 h0
        have JA := Lib.hid (join_any w.heap.size s m _ vv (.slice r1a r.length r1n) q E r w2 HE2.out (fun g hg => by
          simp only [List.mem_cons, List.not_mem_nil, or_false] at hg
          omega) HB2.out.size HT1.out HIR.out.col h0 (fun g e => by
          have h1 := HF1.out g e
          refine ⟨fun e2 => by have := l3 g e2; omega, fun hm => ?_⟩
          simp only [List.mem_cons, List.not_mem_nil, or_false] at hm
          omega) (rest_low HI.out HIR.out h0) (by omega))
        have hvB : ∀ g, vv.ownBlock = some g → w.heap.size ≤ g := fun g e => (HE.out.row.lt g e).1
        have sm := span_more HI.out HS.out hlt HC.out HIR.out h0
        have SM := Lib.hid sm
        clear sm
        go_wp2_with fail
        refine Calls.mono JA.out ?_
        rintro e w6 ⟨rfl, v5, hE6, hO6⟩
        go_wp2
        exact ⟨⟨k + 1, E ++ [r], v5, by omega, by go_num, hE6, SM.out.1, SM.out.2, by rw [List.length_append, List.length_singleton]; omega, HB2.out.trans (hO6.below HE.out.bs HE.out.bm hvB HB2.out.size)⟩, by simp [intOf]; omega⟩
    · have hkx : k = L.length := by omega
      rw [hkx, List.take_length] at hS
      have R := Lib.hid (show GivesSp q L w (.returned (.pointer (some ⟨s, 0, none⟩))) wr from ⟨s, m, vv, E, rfl, hE, hI, hS, by omega, hB⟩)
      clear hE hB hI hS a3
      go_wp2
      go_ret
      exact R.out
theorem rank_of {q : Nat} [NeZero q] {L E : List (List Tm)} (hI : Ind q E) (hS : Same q E L) (hn : E.length ≤ L.length) : IsRank q L E.length := ⟨E, hI, hS, rfl, hn⟩
/-- A number and an error number are handed back. -/
def GivesNE (R : Nat → Prop) (n : Int) (w : World) (e : Ending) (w' : World) : Prop := ∃ k : Nat, e = .returned (.tuple #[.int .i64 k, .int .i64 n]) ∧ (n = 0 → R k) ∧ (n ≠ 0 → k = 0) ∧ Below w.heap.size w w'
theorem rank_col {q : Nat} [NeZero q] (v : Value) (L : List (List Tm)) (w : World) (tb : Tab w) (hL : ListV w v L) : Calls Tryd.prog 40 #[.int .i64 (q : Int), v] w (GivesNE (IsRank q L) (chkLs q L) w) := by
  have CA := Lib.hid (checkList_any q v L w tb hL)
  by_cases h : chkLs q L = 0
  · obtain ⟨hlen, hp, cL⟩ := chkLs_zero.1 h
    have CK := Lib.hid (fun W (hb : Below w.heap.size w W) => spanOf_any v L W (tb.on hb) hp (hL.below hb) cL hlen)
    rw [h] at CA ⊢
    clear h tb hL hp cL
    go_enter Tryd.func40, Tryd.ntmps40
    go_wp2_with fail
    refine Calls.mono CA.out ?_
    rintro e w1 ⟨rfl, hb1⟩
    have B1 := Lib.hid hb1
    clear hb1
    go_wp2_with fail
    refine Calls.mono (CK.out w1 B1.out) ?_
    rintro e w2 ⟨s, m, v2, E, rfl, hE, hI, hS, hn, hb2⟩
    have R := Lib.hid (show GivesNE (IsRank q L) 0 w (.returned (.tuple #[.int .i64 E.length, .int .i64 0])) w2 from ⟨E.length, rfl, fun _ => rank_of hI hS hn, fun e => absurd rfl e, B1.out.trans (hb2.mono B1.out.size)⟩)
    obtain ⟨va, vn, hva⟩ : ∃ va vn, v2 = .slice va E.length vn := by
      obtain ⟨a, n, e, -⟩ := hE.row.listV
      exact ⟨a, n, e⟩
    subst hva
    have e1 := hE.c1
    clear hE hI hS hb2
    go_wp2
    go_ret2
    exact R.out
  · obtain ⟨x, hx⟩ : ∃ x, x = chkLs q L := ⟨_, rfl⟩
    rw [← hx] at CA h ⊢
    have e0 : (x == 0) = false := beq_eq_false_iff_ne.2 h
    have R := Lib.hid (fun W (hb : Below w.heap.size w W) => (show GivesNE (IsRank q L) x w (.returned (.tuple #[.int .i64 0, .int .i64 x])) W from ⟨0, rfl, fun e => absurd e h, fun _ => rfl, hb⟩))
    clear hx tb hL h
    go_enter Tryd.func40, Tryd.ntmps40
    go_wp2_with fail
    refine Calls.mono CA.out ?_
    rintro e w1 ⟨rfl, hb1⟩
    have B1 := Lib.hid hb1
    clear hb1
    go_wp2
    go_ret2
    exact R.out w1 B1.out
end Go.Proofs.YtdhcffboaiajeaaDoor
