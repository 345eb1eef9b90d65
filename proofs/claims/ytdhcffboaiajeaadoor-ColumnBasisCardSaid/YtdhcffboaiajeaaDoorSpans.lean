/-
  What the statements' spans returns where all columns are in the span; appending several columns at once.
-/
import Derived.Test.YtdhcffboaiajeaaDoorBasisM
import Derived.Test.YtdhcffboaiajeaaDoorRestLaw
namespace Go.Proofs.YtdhcffboaiajeaaDoor
open Go.RowKit M
open Go.Maps

set_option maxHeartbeats 1000000 in
set_option maxRecDepth 100000 in
theorem spans_any {q : Nat} [NeZero q] (v vl : Value) (b R : List (List Tm)) (w : World) (tb : Tab w) (hp : pr (q : Int) = true) (hb : ListV w v b) (hl : ListV w vl R) (hB : Ind q b) (hbl : b.length ≤ 1024) (hR : Cols q R) (hs : ∀ c, c ∈ R → ∀ r u, IsRest q b c r u → r = []) :
    Calls Tryd.prog 49 #[.int .i64 (q : Int), v, vl] w fun e w' => e = .returned (.bool true) ∧ Below w.heap.size w w' := by
  have T := Lib.hid tb
  have hcb : chkLs q b = 0 := chkLs_zero.2 ⟨hbl, hp, hB.cols⟩
  have hlw : lwE b [] = 0 := (lwE_ind hB.cols).2 hB
  have hrs : ∀ y, Col q y → rsE q b y = 0 := fun y hy => by unfold rsE; rw [if_pos hcb, if_pos (chk_zero.2 ⟨hp, hy⟩), hlw]
  have HBV := Lib.hid hb
  have HS := Lib.hid hs
  have HRS := Lib.hid hrs
  obtain ⟨ba, bn, rfl⟩ := hb.form
  obtain ⟨a, n, rfl, a1, a2, a3⟩ := hl
  unfold maxLen at a2
  clear tb hb hcb hlw hs hrs
  go_enter Tryd.func49, Tryd.ntmps49
  go_wp2
  go_loopw [14] (fun i wr => ∃ k : Nat, k ≤ R.length ∧ i = .int .i64 k ∧ Below w.heap.size w wr) (fun i _ => R.length - (intOf i).toNat)
  case atStart => exact ⟨0, Nat.zero_le _, rfl, Below.refl _ _⟩
  case round =>
    obtain ⟨k, hk, rfl, hB⟩ := hrel
    by_cases hlt : k < R.length
    · obtain ⟨g, o, rfl, hg, hc⟩ := a3 (by omega)
      obtain ⟨u, d0, hT⟩ := hc k hlt
      replace d0 := (hB.cell (p := ⟨g, o + k, none⟩) hg).trans d0
      have hm := List.getElem_mem hlt
      have RC := Lib.hid (rest_col q _ u b R[k] wr (T.out.on hB) (HBV.out.below hB) (hT.below hB))
      rw [HRS.out _ (hR _ hm)] at RC
      have HE := Lib.hid (HS.out _ hm)
      have HB := Lib.hid hB
      have hkR : (k : Int) < R.length := by omega
      clear hc a3 hT hB hm
      go_wp2_with fail
      refine Calls.mono RC.out ?_
      rintro e w2 ⟨v1, v2, r, x, rfl, hT1, hT2, hIR, -, -, -, b2⟩
      obtain rfl := HE.out _ _ (hIR rfl)
      obtain ⟨r1a, r1n, rfl⟩ := slice_of hT1
      have HB2 := Lib.hid (HB.out.trans (b2.mono HB.out.size))
      clear hT1 hT2 hIR b2 RC
      go_wp2
      exact ⟨⟨k + 1, by omega, by go_num, HB2.out⟩, by simp [intOf]; omega⟩
    · have HB := Lib.hid hB
      clear hB a3
      go_wp2
      go_ret
      exact ⟨rfl, HB.out⟩
/-- Several columns more: what the append leaves. -/
theorem OwnC.snocs {W V W1 : World} {B : Nat} {v v' : Value} {E D : List (List Tm)} {S : List Nat} {ts us : List Value} (hl : ts.length = E.length) (hl2 : us.length = D.length)
    (hi : ∀ i, i < E.length → TermsV W (ts.getD i undef) (E.getD i []) ∧ (E.getD i [] ≠ [] → ∀ g, (ts.getD i undef).ownBlock = some g → v.ownBlock ≠ some g ∧ g ∉ S)) (hfar : ∀ g, v.ownBlock = some g → g ∉ S)
    (hT : ∀ i, i < D.length → TermsV W (us.getD i undef) (D.getD i []) ∧ (D.getD i [] ≠ [] → ∀ g, (us.getD i undef).ownBlock = some g → v.ownBlock ≠ some g ∧ g ∉ S))
    (hS : ∀ g, g ∈ S → g < W.heap.size) (hV : Below W.heap.size W V) (hown : W1.ownsRow B 22 1 v' (E.length + D.length) (ts ++ us)) (hg : V.grownBy W1 v.ownBlock) (hloc : v'.ownBlock = v.ownBlock ∨ v'.ownBlock = some V.heap.size) : OwnC W1 B v' (E ++ D) S := by
  have hsz := hV.size
  have key : ∀ (x : Value) (d : List Tm), TermsV W x d → (d ≠ [] → ∀ g, x.ownBlock = some g → v.ownBlock ≠ some g ∧ g ∉ S) → TermsV W1 x d ∧ (d ≠ [] → ∀ g, x.ownBlock = some g → v'.ownBlock ≠ some g ∧ g ∉ S) := by
    intro x d hx hd
    refine ⟨(hx.below hV).grown hg (fun h0 k e => (hd h0 k e).1), fun h0 g e => ⟨?_, (hd h0 g e).2⟩⟩
    have := hx.lt h0 g e
    rcases hloc with h | h
    · rw [h]; exact (hd h0 g e).1
    · rw [h]
      intro e2
      injection e2 with e2
      omega
  refine ⟨⟨ts ++ us, by simp [hl, hl2], by rw [List.length_append]; exact hown, fun i h => ?_⟩, fun g e => ?_⟩
  · rw [List.length_append] at h
    by_cases hlt : i < E.length
    · have e1 : (ts ++ us).getD i undef = ts.getD i undef := by rw [List.getD_eq_getElem?_getD, List.getD_eq_getElem?_getD, List.getElem?_append_left (by omega)]
      rw [e1, getD_append_left hlt]
      exact key _ _ (hi i hlt).1 (hi i hlt).2
    · have e1 : (ts ++ us).getD i undef = us.getD (i - E.length) undef := by rw [List.getD_eq_getElem?_getD, List.getD_eq_getElem?_getD, List.getElem?_append_right (by omega), hl]
      have e2 : (E ++ D).getD i [] = D.getD (i - E.length) [] := by rw [List.getD_eq_getElem?_getD, List.getD_eq_getElem?_getD, List.getElem?_append_right (by omega)]
      rw [e1, e2]
      exact key _ _ (hT _ (by omega)).1 (hT _ (by omega)).2
  · rcases hloc with h | h
    · rw [h] at e; exact hfar g e
    · rw [h] at e
      injection e with e
      intro hm
      have := hS g hm
      omega
/-- The values of a list of columns that begins at an address. -/
theorem ListV.cells {w : World} {ad : Addr} {n c : Nat} {L : List (List Tm)} (h : ListV w (.slice (some ad) n c) L) : ∃ us : List Value, us.length = L.length ∧ (∀ j u, us[j]? = some u → w.cell? (ad.add j) = some u) ∧ (∀ u, u ∈ us → u.oneCell' = true) ∧ ∀ i, i < L.length → TermsV w (us.getD i undef) (L.getD i []) := by
  obtain ⟨a, n, e, h1, h2, h3⟩ := h
  injection e with e1 e2 e3
  by_cases h0 : 0 < L.length
  · obtain ⟨g, o, rfl, hg, hc⟩ := h3 h0
    obtain rfl : ad = ⟨g, o, none⟩ := Option.some.inj e1
    have key : ∀ i, i < L.length → ∃ s, w.cell? ⟨g, o + i, none⟩ = some s ∧ TermsV w s (L.getD i []) := fun i hi => by
      obtain ⟨s, d, hT⟩ := hc i hi
      rw [List.getD_eq_getElem?_getD, List.getElem?_eq_getElem hi]
      exact ⟨s, d, hT⟩
    refine ⟨(List.range L.length).map fun i => (w.cell? ⟨g, o + i, none⟩).getD undef, by simp, fun j u hu => ?_, fun u hu => ?_, fun i hi => ?_⟩
    · have hj : j < L.length := by
        have := (List.getElem?_eq_some_iff.1 hu).1
        simpa using this
      obtain ⟨s, d, -⟩ := key j hj
      rw [List.getElem?_map, List.getElem?_range hj] at hu
      simp only [Option.map_some, d, Option.getD_some, Option.some.injEq] at hu
      rw [Addr.add_lit, d, hu]
    · simp only [List.mem_map, List.mem_range] at hu
      obtain ⟨i, hi, rfl⟩ := hu
      obtain ⟨s, d, hT⟩ := key i hi
      rw [d]
      obtain ⟨a', n', rfl, -⟩ := hT
      rfl
    · obtain ⟨s, d, hT⟩ := key i hi
      rw [List.getD_eq_getElem?_getD, List.getElem?_map, List.getElem?_range hi]
      simp only [Option.map_some, d, Option.getD_some]
      exact hT
  · refine ⟨[], by simp; omega, fun j u hu => by simp at hu, fun u hu => absurd hu (by simp), fun i hi => by omega⟩
end Go.Proofs.YtdhcffboaiajeaaDoor
