/-
  What kernel returns: the walk.
-/
import Derived.Test.YtdhcffboaiajeaaDoorKern
namespace Go.Proofs.YtdhcffboaiajeaaDoor
open Go.RowKit M
open Go.Maps

theorem Ind.nil (p : Int) : Ind p [] := ⟨fun c hc => absurd hc (by simp), fun k hk => absurd hk (by simp), fun j k hj => absurd hj (by simp)⟩
theorem slice_of {w : World} {v : Value} {c : List Tm} (h : TermsV w v c) : ∃ a n, v = .slice a c.length n := let ⟨a, n, e, _⟩ := h; ⟨a, n, e⟩
theorem rest_rows {p : Int} {E : List (List Tm)} {c r u : List Tm} (h : IsRest p E c r u) : ∀ t, t ∈ u → t.1 < E.length := by
  intro t ht
  have h1 := co_mem h.ucol ht
  have h2 := mem_row h.ucol ht
  rcases Int.lt_or_le t.1 E.length with g | g
  · exact g
  · have := h.urow t.1 g
    omega
theorem rest_low {p : Int} {E : List (List Tm)} {c r u : List Tm} (hI : Ind p E) (h : IsRest p E c r u) (h0 : r ≠ []) : ∀ k, k < E.length → low (E.getD k []) ≠ low r := by
  intro k hk e
  have hs := (hI.snoc h.col h0 h.zero).inj k E.length (by simp; omega) (by simp) (by rw [getD_append_left hk, getD_append_end]; exact e)
  omega
/-- The kernel is handed back. -/
def GivesK (q : Nat) [NeZero q] (L : List (List Tm)) (w : World) (e : Ending) (w' : World) : Prop := ∃ v Z, e = .returned v ∧ ListV w' v Z ∧ IsKer q L Z ∧ (∀ k, v.ownBlock = some k → w.heap.size ≤ k) ∧ Below w.heap.size w w'
set_option maxHeartbeats 4000000 in
set_option maxRecDepth 100000 in
theorem kernel_any {q : Nat} [NeZero q] (v : Value) (L : List (List Tm)) (w : World) (tb : Tab w) (hp : pr (q : Int) = true) (hL : ListV w v L) (cL : Cols q L) (hlen : L.length ≤ 1024) : Calls Tryd.prog 74 #[.int .i64 (q : Int), v] w (GivesK q L w) := by
  have F := fld_of hp
  have hpb := pr_bd hp
  have T := Lib.hid tb
  obtain ⟨i0, hi0, hz0, hz1, hz2⟩ := info_parts (show (Tryd.prog.info? 22).map (fun i => (i.zero, i.size, i.bytes)) = some (some (.slice none 0 0), 1, 24) by kernel_rfl)
  have EO := Lib.hid (echelonOf_any q (.slice none 0 0) [] w (ListV.nil w) (Ind.nil q) (by simp))
  obtain ⟨a, n, rfl, a1, a2, a3⟩ := hL
  unfold maxLen at a2
  clear tb
  go_enter Tryd.func74, Tryd.ntmps74
  go_wp2_with fail
  refine Calls.mono EO.out ?_
  rintro e w1 ⟨s, m, v0, rfl, hE1, hB1⟩
  have K1 := KL.start hE1
  go_wp2
  go_loopw [6, 7, 17] (fun vz vm i wr => ∃ (k : Nat) (E M Z : List (List Tm)) (Jn : Int → Prop) (v : Value), k ≤ L.length ∧ i = .int .i64 k ∧ KL wr w.heap.size s m v vm vz q E M Z ∧ KI q L E M Z Jn k ∧ Below w.heap.size w wr) (fun _ _ i _ => L.length - (intOf i).toNat)
  case atStart => exact ⟨0, [], [], [], _, v0, Nat.zero_le _, rfl, K1, KI.start L, hB1⟩
  case round =>
    clear K1 hE1 hB1
    obtain ⟨k, E, M, Z, Jn, vv, hk, rfl, hK, hI, hB⟩ := hrel
    by_cases hlt : k < L.length
    · obtain ⟨g, o, rfl, hg, hc⟩ := a3 (by omega)
      obtain ⟨u, d0, hT⟩ := hc k hlt
      replace d0 := (hB.cell (p := ⟨g, o + k, none⟩) hg).trans d0
      have hgk : L.getD k [] = L[k] := by rw [List.getD_eq_getElem?_getD, List.getElem?_eq_getElem hlt]; rfl
      have hcol := cL.at_ k
      have hcnt := hI.cnt
      rw [← hgk] at hT
      have Tr := Lib.hid (T.out.on hB)
      have RC := Lib.hid (rest_any w.heap.size s m _ vv u q E (L.getD k []) wr Tr.out hp hK.ech hI.ind (by omega) (hT.below hB) hcol)
      obtain ⟨l1, l2, l3, l4, l5⟩ := hK.lts
      have HK := Lib.hid hK
      have HI := Lib.hid hI
      have HB := Lib.hid hB
      have HC := Lib.hid hcol
      clear hc a3 hT hB hK hI hcol hgk
      go_wp2_with fail
      refine Calls.mono RC.out ?_
      rintro e w2 ⟨v1, v2, r, x, rfl, hT1, hT2, hIR, hf1, hf2, hb2⟩
      obtain ⟨r1a, r1n, rfl⟩ := slice_of hT1
      have HK2 := Lib.hid (HK.out.below hb2)
      have HB2 := Lib.hid hb2
      have HT1 := Lib.hid hT1
      have HT2 := Lib.hid hT2
      have HIR := Lib.hid hIR
      have HF1 := Lib.hid hf1
      clear hT1 hT2 hIR hf1 hf2 hb2 RC
      have lk : wr.heap.size ≤ w2.heap.size := HB2.out.size
      have CM := Lib.hid (fun W (hb : Below w2.heap.size w2 W) => combination_any q u7 v2 M x W ((Tr.out.on HB2.out).on hb) hp (HK2.out.mad.listV.below hb) (HT2.out.below hb) HI.out.mcol HIR.out.ucol (fun t ht => by have := rest_rows HIR.out t ht; have := HI.out.len; omega) (col_len HIR.out.ucol))
      have PL := Lib.hid (fun W va vb (hb : Below w2.heap.size w2 W) (h1 : TermsV W va [((k : Int), 1)]) (h2 : TermsV W vb (cmC q M x)) => plus_any q (-1) va vb _ _ W ((Tr.out.on HB2.out).on hb) hp h1 h2 (unit_col (by omega) (by omega)) (cmC_col hp M x) (by simp) (col_len (cmC_col hp M x)))
      obtain ⟨W3, hW3⟩ : ∃ W3, W3 = w2.alloc (.cells #[.int .i64 (k : Int), .int .i64 1] 37) := ⟨_, rfl⟩
      have B3 : Below w2.heap.size w2 W3 := by rw [hW3]; exact (Below.refl _ w2).alloc (Nat.le_refl _) _
      have U3 : TermsV W3 (.slice (some ⟨w2.heap.size, 0, none⟩) 1 1) [((k : Int), 1)] := ⟨_, 1, rfl, Nat.le_refl _, by unfold maxLen; omega, fun _ => ⟨w2.heap.size, 0, rfl, by rw [hW3]; simp, fun i hi => by
        have : i = 0 := by simpa using hi
        subst this
        rw [hW3]
        exact ⟨by rw [World.cell?_alloc_at _ _ _ _ rfl]; rfl, by rw [World.cell?_alloc_at _ _ _ _ rfl]; rfl⟩⟩⟩
      go_wp2_with fail
      rw [← hW3]
      refine Calls.mono (CM.out W3 B3) ?_
      rintro e w4 ⟨v3, rfl, hT3, hk3, hb3⟩
      have HB4 := Lib.hid (B3.trans (hb3.mono B3.size))
      have U4 := U3.below hb3
      have lk3 : w2.heap.size ≤ W3.heap.size := B3.size
      clear hW3 B3 U3
      go_wp2_with fail
      refine Calls.mono (PL.out w4 _ _ HB4.out U4 hT3) ?_
      rintro e w5 ⟨v4, rfl, hT4, hk4, hb4⟩
      obtain ⟨r4a, r4n, rfl⟩ := slice_of hT4
      have HB5 := Lib.hid (HB4.out.trans (hb4.mono HB4.out.size))
      have hkw4 : w2.heap.size ≤ w4.heap.size := HB4.out.size
      have HT4 := Lib.hid (show TermsV w5 (.slice r4a (nextX q M k x).length r4n) (nextX q M k x) from hT4)
      have hnx : pls q [((k : Int), 1)] (-1) (cmC q M x) = nextX q M k x := rfl
      rw [hnx]
      have HF4 := Lib.hid (fun g (e : (Value.slice r4a (nextX q M k x).length r4n).ownBlock = some g) => Nat.le_trans hkw4 (hk4 g e))
      have HK5 := Lib.hid (HK2.out.below HB5.out)
      have HT15 := Lib.hid (HT1.out.below HB5.out)
      obtain ⟨NX, hNX⟩ : ∃ NX, NX = nextX q M k x := ⟨_, rfl⟩
      rw [← hNX] at HT4 HF4 ⊢
      have HNX := Lib.hid hNX
      have hk5 : w2.heap.size ≤ w5.heap.size := HB5.out.size
      clear hT3 hk3 hb3 U4 hT4 hk4 hb4 hnx hNX CM PL HB4
      have HB6 := Lib.hid (HB.out.trans ((HB2.out.trans (HB5.out.mono lk)).mono HB.out.size))
      by_cases h0 : r = []
      · subst h0
        obtain ⟨ts, hl, hrow, hi⟩ := HK5.out.zer.ex
        have hbz := HB6.out.size
        have hzB : ∀ g, u6.ownBlock = some g → w.heap.size ≤ g := fun g e => (HK5.out.zer.lt g e).1
        have hu : NX ≠ [] → ∀ g, (Value.slice r4a NX.length r4n).ownBlock = some g → u6.ownBlock ≠ some g ∧ g ∉ (s :: m :: bl vv ++ bl u7) := fun _ g e => by
          have h1 := HF4.out g e
          refine ⟨fun e2 => by have := l5 g (mem_bl.2 e2); omega, fun hm => ?_⟩
          simp only [List.mem_append, List.mem_cons] at hm
          rcases hm with (rfl | rfl | hm) | hm
          · omega
          · omega
          · have := l3 g hm; omega
          · have := l4 g hm; omega
        have HU := Lib.hid hu
        have HI5 := Lib.hid hi
        have HZB := Lib.hid hzB
        clear hu hi hzB
        go_wp2_with (at_builtin; refine wpList_append_own_at _ rfl _ _ 24 rfl w.heap.size 22 i0 (.slice none 0 0) 1 24 Tryd.underlying24 hi0 hz0 hz1 hz2 rfl (by decide) _ _ _ rfl (hrow.alloc _) ⟨w5.heap.size, 0, none⟩ 1 1 [.slice r4a NX.length r4n] rfl rfl (cell_one_new _ _ _) (by simp [Value.oneCell']) (by unfold maxLen; omega) (by omega) (by simp; omega) ?_; intro v' w7 hown' hgrow _ hloc)
        exact ⟨⟨k + 1, E, M, Z ++ [NX], Jn, vv, by omega, by go_num, KL.zero HK5.out hl HI5.out HT4.out HU.out _ hown' hgrow hloc, (by rw [HNX.out]; exact HI.out.zero F hp hlt (by omega) cL HIR.out), HB6.out.grown ((World.grownBy_alloc w5 (.cells #[.slice r4a NX.length r4n] 22) _).trans hgrow) hbz HZB.out⟩, by simp [intOf]; omega⟩
      · have hr0 : 0 < r.length := List.length_pos_iff.2 h0
        have hbz := HB6.out.size
        have hrB : ∀ g, (Value.slice r1a r.length r1n).ownBlock = some g → vv.ownBlock ≠ some g ∧ g ∉ (s :: m :: bl u7 ++ bl u6) := fun g e => by
          have h1 := HF1.out g e
          refine ⟨fun e2 => by have := l3 g (mem_bl.2 e2); omega, fun hm => ?_⟩
          simp only [List.mem_append, List.mem_cons] at hm
          rcases hm with (rfl | rfl | hm) | hm
          · omega
          · omega
          · have := l4 g hm; omega
          · have := l5 g hm; omega
        have hS : ∀ g, g ∈ (s :: m :: bl u7 ++ bl u6) → g < w5.heap.size := fun g hm => by
          simp only [List.mem_append, List.mem_cons] at hm
          rcases hm with (rfl | rfl | hm) | hm
          · omega
          · omega
          · have := l4 g hm; omega
          · have := l5 g hm; omega
        have JA := Lib.hid (join_any w.heap.size s m _ vv (.slice r1a r.length r1n) q E r w5 HK5.out.ech hS hbz HT15.out HIR.out.col h0 hrB (rest_low HI.out.ind HIR.out h0) (by omega))
        clear hrB hS
        go_wp2_with fail
        refine Calls.mono JA.out ?_
        rintro e w6 ⟨rfl, v5, hE6, hO6⟩
        have K6 := HK5.out.joined hE6 hO6
        have hvB : ∀ g, vv.ownBlock = some g → w.heap.size ≤ g := fun g e => (HK5.out.ech.row.lt g e).1
        have B6 : Below w.heap.size w w6 := HB6.out.trans (hO6.below HK5.out.ech.bs HK5.out.ech.bm hvB hbz)
        have T46 : TermsV w6 (.slice r4a NX.length r4n) NX := HT4.out.by hO6.size fun _ g e hlt => by
          have h1 := HF4.out g e
          exact hO6.block g hlt (by omega) (by omega) (fun e2 => by have := l3 g (mem_bl.2 e2); omega)
        have hlt4 : NX ≠ [] → ∀ g, (Value.slice r4a NX.length r4n).ownBlock = some g → g < w5.heap.size := fun h => HT4.out.lt h
        obtain ⟨ts, hl, hrow, hi⟩ := K6.mad.ex
        have hu : NX ≠ [] → ∀ g, (Value.slice r4a NX.length r4n).ownBlock = some g → u7.ownBlock ≠ some g ∧ g ∉ (s :: m :: bl v5 ++ bl u6) := fun h g e => by
          have h1 := HF4.out g e
          have h2 := hlt4 h g e
          refine ⟨fun e2 => by have := l4 g (mem_bl.2 e2); omega, fun hm => ?_⟩
          simp only [List.mem_append, List.mem_cons] at hm
          rcases hm with (rfl | rfl | hm) | hm
          · omega
          · omega
          · rcases hO6.loc with e3 | e3
            · rw [mem_bl, e3, ← mem_bl] at hm
              have := l3 g hm; omega
            · have := e3 g (mem_bl.1 hm); omega
          · have := l5 g hm; omega
        have hmB : ∀ g, u7.ownBlock = some g → w.heap.size ≤ g := fun g e => (K6.mad.lt g e).1
        have hsz6 := B6.size
        have hml : M.length ≤ 1024 := by have := HI.out.len; omega
        have HU := Lib.hid hu
        have HI6 := Lib.hid hi
        have HMB := Lib.hid hmB
        have HK6 := Lib.hid K6
        have HB7 := Lib.hid B6
        have HT6 := Lib.hid T46
        clear hu hi hmB K6 B6 T46 hE6 hO6 hvB hlt4 JA
        go_wp2_with (at_builtin; refine wpList_append_own_at _ rfl _ _ 24 rfl w.heap.size 22 i0 (.slice none 0 0) 1 24 Tryd.underlying24 hi0 hz0 hz1 hz2 rfl (by decide) _ _ _ rfl (hrow.alloc _) ⟨w6.heap.size, 0, none⟩ 1 1 [.slice r4a NX.length r4n] rfl rfl (cell_one_new _ _ _) (by simp [Value.oneCell']) (by unfold maxLen; omega) (by omega) (by simp; omega) ?_; intro v' w7 hown' hgrow _ hloc)
        exact ⟨⟨k + 1, E ++ [r], M ++ [NX], Z, _, v5, by omega, by go_num, KL.made HK6.out hl HI6.out HT6.out HU.out _ hown' hgrow hloc, (by rw [HNX.out]; exact HI.out.join F hp hlt (by omega) cL HIR.out h0), HB7.out.grown ((World.grownBy_alloc w6 (.cells #[.slice r4a NX.length r4n] 22) _).trans hgrow) hsz6 HMB.out⟩, by simp [intOf]; omega⟩
    · have hkx : k = L.length := by omega
      have HZ := Lib.hid hK.zer
      have HI := Lib.hid (show IsKer q L Z from (hkx ▸ hI).ker F hp)
      have HB := Lib.hid hB
      clear hB a3 hK hI
      go_wp2
      go_ret
      exact ⟨_, Z, rfl, HZ.out.listV, HI.out, fun g e => (HZ.out.lt g e).1, HB.out⟩
end Go.Proofs.YtdhcffboaiajeaaDoor
