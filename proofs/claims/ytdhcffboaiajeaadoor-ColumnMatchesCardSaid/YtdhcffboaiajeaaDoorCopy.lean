/-
  What the reference's Copy and CopyList return.
-/
import Derived.Test.YtdhcffboaiajeaaDoorFitList
import Derived.Laws.OwnMore
namespace Go.Proofs.YtdhcffboaiajeaaDoor
open Go.RowKit M
open Go.Maps

/-- Nothing appended to a row of the call's own. -/
theorem run_append_nil {P : Program} {w : World} (base : Nat) (t ty e : TypeId) (i : TypeInfo) (size : Nat) (ht : P.underlying t = some (.slice e)) (hi : P.info? e = some i)
    (v : Value) (n : Nat) (xs : List Value) (hown : w.ownsRow base e size v n xs) (c : Nat) :
    (Builtin.append_ #[t, t] ty #[v, .slice none 0 c]).run P w = .ok v w := by
  rcases hown.2 with ⟨rfl, rfl⟩ | ⟨g, cap, cur, rfl, _, _, hnc, _⟩ <;> simp [Builtin.append_, run_underlying ht, sizeOf, typeInfo, Builtin.lenOf, Builtin.firstCells, storeCells, *]
theorem wpList_append_nil {P : Program} {w : World} {ops : Array Oper} {rest : List Oper} {o : Oper} {a : Act} {Q : Exit → Act → World → Prop} (hgd : o.guard = none) (s x : Operand) (t : TypeId)
    (ho : o.op = .call { callee := .builtin .append, args := #[s, x], argTypes := #[t, t] })
    (base : Nat) (e : TypeId) (i : TypeInfo) (size : Nat) (ht : P.underlying t = some (.slice e)) (hi : P.info? e = some i)
    (v : Value) (n : Nat) (xs : List Value) (hs : a.eval s = v) (hown : w.ownsRow base e size v n xs) (c : Nat) (hx : a.eval x = .slice none 0 c)
    (h : wpList P ops Q rest (a.put o.dst v) w) : wpList P ops Q (o :: rest) a w := by
  refine wpList_plain hgd fun K hK => ?_
  have hrun := run_append_nil (P := P) (w := w) base t o.type e i size ht hi v n xs hown c
  unfold Oper.wp
  simp [execOp, ho, resolve, invoke, builtin, hs, hx, hrun, Result.andThen]
  exact hK _ _ h
theorem flat2_cells {w : World} {g o : Nat} {c : List Tm} (h : ∀ i (hi : i < c.length), w.cell? ⟨g, o + i * 2, none⟩ = some (.int .i64 c[i].1) ∧ w.cell? ⟨g, o + i * 2 + 1, none⟩ = some (.int .i64 c[i].2)) : ∀ j u, (flat2 c)[j]? = some u → w.cell? ((⟨g, o, none⟩ : Addr).add j) = some u := by
  intro j u hu
  have hj : j < c.length * 2 := by rw [← flat2_len]; exact (List.getElem?_eq_some_iff.1 hu).1
  obtain ⟨i, hi | hi⟩ : ∃ i, j = i * 2 ∨ j = i * 2 + 1 := ⟨j / 2, by omega⟩
  · subst hi
    have hi2 : i < c.length := by omega
    rw [(flat2_get c i hi2).1] at hu
    rw [Addr.add_lit, ← hu]
    exact (h i hi2).1
  · subst hi
    have hi2 : i < c.length := by omega
    rw [(flat2_get c i hi2).2] at hu
    rw [Addr.add_lit, ← hu, ← Nat.add_assoc]
    exact (h i hi2).2
theorem flat2_one : ∀ (c : List Tm) (u : Value), u ∈ flat2 c → u.oneCell' = true
  | [], _, h => by simp [flat2] at h
  | t :: c, u, h => by
    simp only [flat2, List.mem_cons] at h
    rcases h with rfl | rfl | h
    · rfl
    · rfl
    · exact flat2_one c u h
set_option maxHeartbeats 1000000 in
set_option maxRecDepth 100000 in
theorem copy_any (v : Value) (c : List Tm) (w : World) (h : TermsV w v c) (hl : c.length ≤ 100000) : Calls Tryd.prog 14 #[v] w (GivesC c w) := by
  obtain ⟨i0, hi, hz0, hz1, hz2⟩ := info_parts infoT
  obtain ⟨a, n, rfl, h1, h2, h3⟩ := h
  have B1 : Below w.heap.size w (w.alloc (.cells #[] 37)) := (Below.refl _ w).alloc (Nat.le_refl _) _
  have HB1 := Lib.hid B1
  clear B1
  cases a with
  | none =>
    obtain rfl : c = [] := by
      cases c with
      | nil => rfl
      | cons t c => obtain ⟨g, o, e, -⟩ := h3 (by simp); cases e
    have NT := Lib.hid (TermsV.own (World.ownsRow_lit (base := w.heap.size) (e := 37) (size := 2) w #[] 0 (Nat.le_refl _) (by unfold maxLen; omega) rfl) : TermsV (w.alloc (.cells #[] 37)) (.slice (some ⟨w.heap.size, 0, none⟩) 0 0) [])
    go_enter Tryd.func14, Tryd.ntmps14
    go_wp2_with (at_builtin; refine wpList_append_nil rfl _ _ 22 rfl w.heap.size 37 i0 2 Tryd.underlying22 hi _ _ _ rfl (World.ownsRow_lit w #[] 0 (Nat.le_refl _) (by unfold maxLen; omega) rfl) n rfl ?_)
    go_ret
    exact ⟨_, rfl, NT.out, fun k hk => by simp [Value.ownBlock] at hk; omega, HB1.out⟩
  | some ad =>
    have hnews : ∀ j u, (flat2 c)[j]? = some u → (w.alloc (.cells #[] 37)).cell? (ad.add j) = some u := by
      intro j u hu
      have hp : 0 < c.length := by
        have := (List.getElem?_eq_some_iff.1 hu).1
        rw [flat2_len] at this
        omega
      obtain ⟨g, o, e, hg, hc⟩ := h3 hp
      obtain rfl : ad = ⟨g, o, none⟩ := Option.some.inj e
      have := flat2_cells hc j u hu
      rw [Addr.add_lit] at this ⊢
      rw [World.cell?_alloc_past _ _ _ hg]
      exact this
    have HN := Lib.hid hnews
    clear h3 hnews
    go_enter Tryd.func14, Tryd.ntmps14
    go_wp2_with (at_builtin; refine wpList_append_own _ rfl _ _ 22 rfl w.heap.size 37 i0 (.agg #[.int .i64 0, .int .i64 0]) 2 16 Tryd.underlying22 hi hz0 hz1 hz2 rfl (by decide) _ _ _ rfl (World.ownsRow_lit w #[] 0 (Nat.le_refl _) (by unfold maxLen; omega) rfl) ad c.length n (flat2 c) rfl (flat2_len c) HN.out (flat2_one c) (by unfold maxLen; omega) (by omega) (by simp) ?_; intro v' w1 hown' hgrow _)
    have hb : Below w.heap.size w w1 := HB1.out.grown hgrow (by simp) (fun k hk => by cases hk; exact Nat.le_refl _)
    have hT : TermsV w1 v' c := TermsV.own (by simpa using hown')
    have hk := TermsV.own_lt hown'
    have R := Lib.hid (show GivesC c w (.returned v') w1 from ⟨v', rfl, hT, hk, hb⟩)
    clear hown' hgrow hb hT hk HN HB1
    go_wp2
    go_ret
    exact R.out
/-- A list of the call's own is handed back. -/
def GivesOL (L : List (List Tm)) (w : World) (e : Ending) (w' : World) : Prop := ∃ v, e = .returned v ∧ OwnC w' w.heap.size v L [] ∧ Below w.heap.size w w'
set_option maxHeartbeats 1000000 in
set_option maxRecDepth 100000 in
theorem copyList_any (v : Value) (L : List (List Tm)) (w : World) (hL : ListV w v L) (hn : L.length ≤ 100000) (hc : ∀ c, c ∈ L → c.length ≤ 100000) : Calls Tryd.prog 33 #[v] w (GivesOL L w) := by
  obtain ⟨i0, hi0, hz0, hz1, hz2⟩ := info_parts (show (Tryd.prog.info? 22).map (fun i => (i.zero, i.size, i.bytes)) = some (some (.slice none 0 0), 1, 24) by kernel_rfl)
  obtain ⟨a, n, rfl, a1, a2, a3⟩ := hL
  unfold maxLen at a2
  go_enter Tryd.func33, Tryd.ntmps33
  go_wp2
  go_loopw [3, 4] (fun v i wr => ∃ k : Nat, k ≤ L.length ∧ i = .int .i64 k ∧ OwnC wr w.heap.size v (L.take k) [] ∧ Below w.heap.size w wr) (fun _ i _ => L.length - (intOf i).toNat)
  case atStart => exact ⟨0, Nat.zero_le _, rfl, OwnC.nil _ _ _, Below.refl _ _⟩
  case round =>
    obtain ⟨k, hk, rfl, hO, hB⟩ := hrel
    by_cases hlt : k < L.length
    · obtain ⟨g, o, rfl, hg, hcl⟩ := a3 (by omega)
      obtain ⟨u, d0, hT⟩ := hcl k hlt
      replace d0 := (hB.cell (p := ⟨g, o + k, none⟩) hg).trans d0
      have CF := Lib.hid (copy_any u L[k] wr (hT.below hB) (hc _ (List.getElem_mem hlt)))
      have htk : L.take (k + 1) = L.take k ++ [L[k]] := by rw [List.take_append_getElem]
      have hlk : (L.take k).length = k := by rw [List.length_take]; omega
      obtain ⟨r, hr⟩ : ∃ r, r = L[k] := ⟨_, rfl⟩
      rw [← hr] at CF htk
      have HTK := Lib.hid htk
      have HB := Lib.hid hB
      have HO := Lib.hid hO
      clear hcl a3 hT hB hO htk hr
      go_wp2_with fail
      refine Calls.mono CF.out ?_
      rintro e w2 ⟨v1, rfl, hT1, hf1, hb2⟩
      obtain ⟨r1a, r1n, rfl⟩ := slice_of hT1
      have O2 := HO.out.below hb2
      have B2 : Below w.heap.size w w2 := HB.out.trans (hb2.mono HB.out.size)
      obtain ⟨ts, hl, hrow, hi⟩ := O2.ex
      have hlt1 : ∀ g, u3.ownBlock = some g → g < wr.heap.size := fun g e => (HO.out.lt g e).2
      have hu : r ≠ [] → ∀ g, (Value.slice r1a r.length r1n).ownBlock = some g → u3.ownBlock ≠ some g ∧ g ∉ ([] : List Nat) := fun _ g e => ⟨fun e2 => by have h1 := hf1 g e; have h2 := hlt1 g e2; omega, by simp⟩
      have hzB : ∀ g, u3.ownBlock = some g → w.heap.size ≤ g := fun g e => (HO.out.lt g e).1
      have hbz := B2.size
      have HU := Lib.hid hu
      have HI5 := Lib.hid hi
      have HZB := Lib.hid hzB
      have HB2 := Lib.hid B2
      have HT1 := Lib.hid hT1
      have HO2 := Lib.hid O2
      clear hu hi hzB B2 hT1 hf1 hb2 O2
      go_wp2_with (at_builtin; refine wpList_append_own_at _ rfl _ _ 24 rfl w.heap.size 22 i0 (.slice none 0 0) 1 24 Tryd.underlying24 hi0 hz0 hz1 hz2 rfl (by decide) _ _ _ rfl (hrow.alloc _) ⟨w2.heap.size, 0, none⟩ 1 1 [.slice r1a r.length r1n] rfl rfl (cell_one_new _ _ _) (by simp [Value.oneCell']) (by unfold maxLen; omega) (by omega) (by simp; omega) ?_; intro v' w7 hown' hgrow _ hloc)
      exact ⟨⟨k + 1, by omega, by go_num, by rw [HTK.out]; exact OwnC.snoc hl HI5.out HO2.out.far HT1.out HU.out (fun g hg => absurd hg (by simp)) _ hown' hgrow hloc, HB2.out.grown ((World.grownBy_alloc w2 (.cells #[.slice r1a r.length r1n] 22) _).trans hgrow) hbz HZB.out⟩, by simp [intOf]; omega⟩
    · have hkx : k = L.length := by omega
      rw [hkx, List.take_length] at hO
      have R := Lib.hid (show GivesOL L w (.returned u3) wr from ⟨_, rfl, hO, hB⟩)
      clear hO hB a3
      go_wp2
      go_ret
      exact R.out
end Go.Proofs.YtdhcffboaiajeaaDoor
