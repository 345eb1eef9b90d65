/-
  What reduced and Basis return.
-/
import Derived.Test.YtdhcffboaiajeaaDoorRed
namespace Go.Proofs.YtdhcffboaiajeaaDoor
open Go.RowKit M
open Go.Maps

/-- A list that answers R is handed back. -/
def GivesL (R : List (List Tm) → Prop) (w : World) (e : Ending) (w' : World) : Prop := ∃ v Z, e = .returned v ∧ ListV w' v Z ∧ R Z ∧ (∀ k, v.ownBlock = some k → w.heap.size ≤ k) ∧ Below w.heap.size w w'
set_option maxHeartbeats 4000000 in
set_option maxRecDepth 100000 in
theorem reduced_any {q : Nat} [NeZero q] (B s m : Nat) (S : List Nat) (vv : Value) (E : List (List Tm)) (w : World) (tb : Tab w) (hp : pr (q : Int) = true) (hE : EchV w B s m S vv q E) (hI : Ind q E) (_ : E.length ≤ 1024) : Calls Tryd.prog 72 #[.pointer (some ⟨s, 0, none⟩)] w (GivesL (fun R => Rd q R ∧ Same q R E) w) := by
  have F := fld_of hp
  have hpb := pr_bd hp
  have T := Lib.hid tb
  have EO := Lib.hid (echelonOf_any q (.slice none 0 0) [] w (ListV.nil w) (Ind.nil q) (by simp))
  have e0 := hE.c0
  clear tb
  go_enter Tryd.func72, Tryd.ntmps72
  go_wp2_with fail
  refine Calls.mono EO.out ?_
  rintro e w1 ⟨s2, m2, v0, rfl, hE1, hB1⟩
  clear e0
  go_wp2
  go_loopw [16] (fun i wr => ∃ (t : Nat) (R : List (List Tm)) (v : Value), t ≤ 1024 ∧ i = .int .i64 t ∧ EchV wr w.heap.size s2 m2 [s2, m2] v q R ∧ RB q E R t ∧ Below w.heap.size w wr) (fun i _ => 1024 - (intOf i).toNat)
  case atStart => exact ⟨0, [], v0, Nat.zero_le _, rfl, hE1, RB.start hI, hB1⟩
  case round =>
    clear hE1 hB1
    obtain ⟨t, R, v2, ht, rfl, hR, hI2, hB⟩ := hrel
    by_cases hlt : t < 1024
    · have HE := Lib.hid (hE.below hB)
      have e2 := HE.out.c2
      obtain ⟨D, hD, hD1, hD2⟩ := HE.out.map.ex
      have hwf : (Lit.int .i64 (t : Int)).wf = true := WalkArith.wf_i64 (by omega)
      have HD1 := Lib.hid hD1
      have HD2 := Lib.hid hD2
      have HR := Lib.hid hR
      have HI := Lib.hid hI2
      have HB := Lib.hid hB
      clear hD1 hD2 hR hI2 hB
      obtain ⟨bb, hbb⟩ : ∃ bb, Maps.has D (.int .i64 (t : Int)) = bb := ⟨_, rfl⟩
      cases bb with
      | false =>
        have HS := Lib.hid (HI.out.skip (fun k hk hl => by
          have := (HD1.out (t : Int)).2 ⟨k, hk, hl⟩
          rw [hbb] at this
          cases this))
        go_wp2_with (at_lookup; refine wpList_lookup_own_ok_int _ rfl _ _ 89 rfl 3 3 .i64 lawI Tryd.underlying89 Tryd.underlying3 (zeroI _) m E.length D rfl hD _ _ rfl (keyOf_int_mk Tryd.underlying3 hwf) ?_; intro ci hat hwc; rw [hbb])
        exact ⟨⟨t + 1, R, v2, by omega, by go_num, HR.out, HS.out, HB.out⟩, by simp [intOf]; omega⟩
      | true =>
        obtain ⟨j, hj, hlj⟩ := (HD1.out (t : Int)).1 hbb
        have hdj := HD2.out j hj
        rw [hlj] at hdj
        have e1 := HE.out.c1
        obtain ⟨ts, hl, hrow2, hi⟩ := HE.out.row.ex
        obtain ⟨g, vn, hvv, hcols, hgw⟩ : ∃ g vn, vv = .slice (some ⟨g, 0, none⟩) E.length vn ∧ wr.cell? ⟨g, j, none⟩ = some (ts.getD j undef) ∧ g < wr.heap.size := by
          have hr2 := hrow2
          rcases hrow2.2 with ⟨_, hn⟩ | ⟨g, cap, cur, rfl, hB, hg, hc2, hm2, -, -⟩
          · omega
          · refine ⟨g, cap, rfl, ?_, (Array.getElem?_eq_some_iff.1 hg).1⟩
            have := hr2.cells (g := g) rfl j (ts.getD j undef) (by rw [List.getD_eq_getElem?_getD, List.getElem?_eq_getElem (by omega)]; rfl)
            rwa [Addr.add_lit, Nat.zero_add] at this
        subst hvv
        have hTj := (hi j hj).1
        have hcj := hI.cols.at_ j
        obtain ⟨tj, htj⟩ : ∃ tj, tj = ts.getD j undef := ⟨_, rfl⟩
        rw [← htj] at hTj hcols
        have Tr := Lib.hid (T.out.on HB.out)
        have hRl := HI.out.len
        have RC := Lib.hid (rest_any w.heap.size s2 m2 _ v2 tj q R (E.getD j []) wr Tr.out hp HR.out HI.out.red.ind (by omega) hTj hcj)
        have HJ := Lib.hid (fun r u (hr : IsRest q R (E.getD j []) r u) => And.intro (HI.out.rest hI hj hlj hr) (HI.out.join hp hI hj hlj hr))
        have HDJ := Lib.hid hdj
        clear htj hl hi hrow2 hdj hTj hcj
        have hjl : (j : Int) < E.length := by omega
        have lk2 : w.heap.size ≤ wr.heap.size := HB.out.size
        go_wp2_with (at_lookup; refine wpList_lookup_own_ok_int _ rfl _ _ 89 rfl 3 3 .i64 lawI Tryd.underlying89 Tryd.underlying3 (zeroI _) m E.length D rfl hD _ _ rfl (keyOf_int_mk Tryd.underlying3 hwf) ?_; intro ci hat hwc; obtain rfl : ci = (j : Int) := (by have hdj := HDJ.out; rw [hat] at hdj; injection hdj with h; injection h); clear hat hwc; rw [hbb])
        clear hbb hD HDJ
        refine Calls.mono RC.out ?_
        rintro e w2 ⟨va, vb, r, x, rfl, hT1, hT2, hIR, hf1, hf2, hb2⟩
        obtain ⟨⟨r0, rl, -⟩, hRB, b0, bl⟩ := HJ.out r x hIR
        have HC := Lib.hid hIR.col
        have HRB := Lib.hid hRB
        have HB2 := Lib.hid hb2
        have HT1 := Lib.hid hT1
        have HF1 := Lib.hid hf1
        have HR2 := Lib.hid (HR.out.below hb2)
        clear hT1 hT2 hf1 hf2 hRB hb2 RC HJ hIR
        have e0 := HR2.out.c0
        have e0' := (HE.out.below HB2.out).c0
        obtain ⟨-, -, -, l3, l4, -, -⟩ := low_props HC.out r0
        have CLc := Lib.hid (fun W (hb : Below w2.heap.size w2 W) => lowCoef_any va r W (HT1.out.below hb) r0)
        obtain ⟨lc, hlc⟩ : ∃ lc, lc = lowC r := ⟨_, rfl⟩
        rw [← hlc] at CLc l3 l4 HRB b0 bl
        have hlm : md (q : Int) lc ≠ 0 := by rw [md_of, Int.emod_eq_of_lt (by omega) l4]; omega
        have CI := Lib.hid (fun W (hb : Below w2.heap.size w2 W) => inv_ok q lc W ((Tr.out.on HB2.out).on hb) hp hlm)
        obtain ⟨kk, hkk⟩ : ∃ kk, kk = pw (q : Int) lc ((q : Int) - 2).toNat := ⟨_, rfl⟩
        rw [← hkk] at CI HRB b0 bl
        have lk : wr.heap.size ≤ w2.heap.size := HB2.out.size
        have hs2 := HE.out.lt
        have KC := Lib.hid (show ∀ W, Below w2.heap.size w2 W → W.cell? ⟨s, 0, none⟩ = some (.int .i64 q) from fun W hb => (hb.cell (p := ⟨s, 0, none⟩) (Nat.lt_of_lt_of_le hs2 lk)).trans e0')
        have PL := Lib.hid (fun W (hb : Below w2.heap.size w2 W) => plus_any q kk (.slice none 0 0) va [] r W ((Tr.out.on HB2.out).on hb) hp (TermsV.nil W) (HT1.out.below hb) trivial HC.out (by simp) (col_len HC.out))
        have HW := Lib.hid (Below.refl w2.heap.size w2)
        clear hlc hkk hlm e0 e0' l3 l4
        go_wp2_with fail
        go_region_held3 (fun W => W.cell? ⟨s, 0, none⟩ = some (.int .i64 q)) (exact KC.out _ (by ((repeat (with_reducible apply bel_drew)); with_reducible exact HW.out))) (first | (go_at_call 83; (with_reducible refine Calls.mono (CLc.out _ (by ((repeat (with_reducible apply bel_drew)); with_reducible exact HW.out))) ?_); rintro e w' ⟨rfl, rfl⟩) | (go_at_call 86; (with_reducible refine Calls.mono (CI.out _ (by ((repeat (with_reducible apply bel_drew)); with_reducible exact HW.out))) ?_); rintro e w' ⟨rfl, rfl⟩) | fail)
        go_wp2_with fail
        have HW3 := Lib.hid (show Below w2.heap.size w2 w2.drew from by with_reducible exact bel_drew HW.out)
        obtain ⟨W3, hW3⟩ : ∃ W3, W3 = w2.drew := ⟨_, rfl⟩
        rw [← hW3] at HW3 ⊢
        clear hW3
        refine Calls.mono (PL.out _ HW3.out) ?_
        rintro e w5 ⟨v4, rfl, hT4, hk4, hb4⟩
        obtain ⟨r4a, r4n, rfl⟩ := slice_of hT4
        have lk3 : w2.heap.size ≤ W3.heap.size := HW3.out.size
        have B25 : Below w2.heap.size w2 w5 := HW3.out.trans (hb4.mono lk3)
        have B5 : Below w.heap.size w w5 := HB.out.trans ((HB2.out.mono lk2).trans (B25.mono (by omega)))
        have E5 := HR2.out.below B25
        have hbc : Col q (pls q [] kk r) := pls_col hp _ _ _
        obtain ⟨nx, hnx⟩ : ∃ nx, nx = pls q [] kk r := ⟨_, rfl⟩
        rw [← hnx] at hT4 hk4 hbc HRB b0 bl ⊢
        have hrB : ∀ g, v2.ownBlock = some g → w.heap.size ≤ g ∧ g < w2.heap.size := fun g e => (HR2.out.row.lt g e)
        have hs3 := HR2.out.lt
        have hm3 := HR2.out.map.lt
        have JA := Lib.hid (join_any w.heap.size s2 m2 [s2, m2] v2 (.slice r4a nx.length r4n) q R nx w5 E5 (fun g hg => by
          have := B25.size
          simp only [List.mem_cons, List.not_mem_nil, or_false] at hg
          omega) B5.size hT4 hbc b0 (fun g e => by
          have h1 := hk4 g e
          refine ⟨fun e2 => by have := (hrB g e2).2; omega, fun hm => ?_⟩
          simp only [List.mem_cons, List.not_mem_nil, or_false] at hm
          omega) (fun k hk => by rw [bl]; have := HI.out.lows k hk; omega) (by omega))
        have HB5 := Lib.hid B5
        have hbs := HR2.out.bs
        have hbm := HR2.out.bm
        clear B5 B25 hT4 hk4 hb4 hbc hnx PL KC CI CLc E5
        go_wp2_with fail
        refine Calls.mono JA.out ?_
        rintro e w6 ⟨rfl, v5, hE6, hO6⟩
        go_wp2
        exact ⟨⟨t + 1, _, v5, by omega, by go_num, hE6, HRB.out, HB5.out.trans (hO6.below hbs hbm (fun g e => (hrB g e).1) HB5.out.size)⟩, by simp [intOf]; omega⟩
    · have h1024 : t = 1024 := by omega
      subst h1024
      have e1 := hR.c1
      have R := Lib.hid (show GivesL (fun R => Rd q R ∧ Same q R E) w (.returned v2) wr from ⟨_, R, rfl, hR.row.listV, ⟨hI2.red, hI2.same hI⟩, fun g e => (hR.row.lt g e).1, hB⟩)
      clear hR hI2 hB
      go_wp2
      go_ret
      exact R.out
theorem basis_col {q : Nat} [NeZero q] (v : Value) (L : List (List Tm)) (w : World) (tb : Tab w) (hL : ListV w v L) : Calls Tryd.prog 38 #[.int .i64 (q : Int), v] w (GivesLE (fun R => Rd q R ∧ Same q R L) (chkLs q L) w) := by
  have CA := Lib.hid (checkList_any q v L w tb hL)
  by_cases h : chkLs q L = 0
  · obtain ⟨hlen, hp, cL⟩ := chkLs_zero.1 h
    have CK := Lib.hid (fun W (hb : Below w.heap.size w W) => spanOf_any v L W (tb.on hb) hp (hL.below hb) cL hlen)
    have CR := Lib.hid (fun W (hb : Below w.heap.size w W) B s m S vv E (hE : EchV W B s m S vv q E) (hI : Ind q E) (hn : E.length ≤ L.length) => reduced_any B s m S vv E W (tb.on hb) hp hE hI (by omega))
    rw [h] at CA ⊢
    clear h tb hL hp cL
    go_enter Tryd.func38, Tryd.ntmps38
    go_wp2_with fail
    refine Calls.mono CA.out ?_
    rintro e w1 ⟨rfl, hb1⟩
    have B1 := Lib.hid hb1
    clear hb1
    go_wp2_with fail
    refine Calls.mono (CK.out w1 B1.out) ?_
    rintro e w2 ⟨s, m, v2, E, rfl, hE, hI, hS, hn, hb2⟩
    have B2 := Lib.hid (B1.out.trans (hb2.mono B1.out.size))
    have CR2 := Lib.hid (CR.out w2 B2.out _ _ _ _ _ _ hE hI hn)
    have HS := Lib.hid hS
    clear hE hI hb2 CR hS
    go_wp2_with fail
    refine Calls.mono CR2.out ?_
    rintro e w3 ⟨v3, Z, rfl, hZ, ⟨hr1, hr2⟩, hf, hb3⟩
    have R := Lib.hid (show GivesLE (fun R => Rd q R ∧ Same q R L) 0 w (.returned (.tuple #[v3, .int .i64 0])) w3 from ⟨v3, Z, rfl, hZ, fun _ => ⟨hr1, hr2.trans HS.out⟩, fun e => absurd rfl e, fun k hk => Nat.le_trans B2.out.size (hf k hk), B2.out.trans (hb3.mono B2.out.size)⟩)
    clear hZ hr1 hr2 hf hb3
    go_wp2
    go_ret2
    exact R.out
  · obtain ⟨x, hx⟩ : ∃ x, x = chkLs q L := ⟨_, rfl⟩
    rw [← hx] at CA h ⊢
    have e0 : (x == 0) = false := beq_eq_false_iff_ne.2 h
    have H := Lib.hid h
    clear hx tb hL h
    go_enter Tryd.func38, Tryd.ntmps38
    go_wp2_with fail
    refine Calls.mono CA.out ?_
    rintro e w1 ⟨rfl, hb1⟩
    have B1 := Lib.hid hb1
    clear hb1
    go_wp2
    go_ret2
    exact GivesLE.err B1.out H.out
end Go.Proofs.YtdhcffboaiajeaaDoor
