/-
  What the method rest of an echelon returns.
-/
import Derived.Test.YtdhcffboaiajeaaDoorEchOf
import Derived.Test.YtdhcffboaiajeaaDoorRestM
import Derived.Test.YtdhcffboaiajeaaDoorOps
import Derived.Deep.QuietTactic
import Derived.BigQuiet
import Derived.Deep.RegionHeld3
import Derived.StillTailTactics
import Derived.BigRegion
namespace Go.Proofs.YtdhcffboaiajeaaDoor
open Go.RowKit M
open Go.Maps

theorem Tab.drewN {w : World} (h : Tab w) (n : Nat) : Tab (w.drewN n) := h
theorem quietly {P : Program} {f : FuncId} {args : Array Value} {w : World} {n : Nat} {v : Value} (h : Calls P f args (w.drewN n) fun e w' => e = .returned v ∧ w.drewN n = w') :
    Calls P f args (w.drewN n) fun e w'' => e = .returned v ∧ ∃ m, w'' = w.drewN m :=
  h.mono fun _ _ h' => ⟨h'.1, n, h'.2.symm⟩
theorem Tab.grown {w w' : World} {row : Option Nat} (h : Tab w) (hg : w.grownBy w' row) (hne : some 0 ≠ row) : Tab w' := fun i hi => hg.cell (h i hi) hne
theorem nameP {P : Program} {c : Code} {Q : Exit → Act → World → Prop} {a : Act} {w : World} (h : ∀ W, W = w → c.wp P Q a W) : c.wp P Q a w := h w rfl
theorem below_drewN {B : Nat} {a w : World} (h : Below B a w) (n : Nat) : Below B a (w.drewN n) := ⟨h.os, h.tape, h.output, h.size, h.block⟩
set_option maxHeartbeats 8000000 in
set_option maxRecDepth 100000 in
theorem rest_any (B s m : Nat) (S : List Nat) (vv u : Value) (p : Int) (E : List (List Tm)) (c : List Tm) (w : World) (tb : Tab w) (hp : pr p = true) (hE : EchV w B s m S vv p E) (hI : Ind p E) (hlen : E.length ≤ 1024) (hT : TermsV w u c) (hc : Col p c) :
    Calls Tryd.prog 69 #[.pointer (some ⟨s, 0, none⟩), u] w fun e w' => ∃ v1 v2 r x, e = .returned (.tuple #[v1, v2]) ∧ TermsV w' v1 r ∧ TermsV w' v2 x ∧ IsRest p E c r x ∧ (∀ k, v1.ownBlock = some k → w.heap.size ≤ k) ∧ (∀ k, v2.ownBlock = some k → w.heap.size ≤ k) ∧ Below w.heap.size w w' := by
  have hpb := pr_bd hp
  have T := Lib.hid tb
  have hlc : -1 ≤ low c ∧ low c < 1024 := by
    by_cases h : c = []
    · rw [h]; decide
    · have := low_props hc h; omega
  have RS := Lib.hid (RI.start (E := E) hp hc)
  obtain ⟨lo, hlo⟩ : ∃ lo, lo = low c := ⟨_, rfl⟩
  have CL := Lib.hid (fun W (hb : Below w.heap.size w W) => low_any u c W (hT.below hb))
  rw [← hlo] at hlc RS CL
  obtain ⟨hasC, hhas⟩ : ∃ b, b = decide (c ≠ []) := ⟨_, rfl⟩
  rw [← hhas] at CL
  obtain ⟨W0, hW0⟩ : ∃ W0, W0 = (w.alloc (.cells Tryd.zeroCells103 103)).alloc (.cells Tryd.zeroCells103 103) := ⟨_, rfl⟩
  have V0 : VecB W0 w.heap.size (fun _ => 0) := by rw [hW0]; exact (VecB.new w _).below ((Below.refl _ _).alloc (Nat.le_refl _) _)
  have X0 : VecB W0 (w.heap.size + 1) (fun _ => 0) := by
    rw [hW0]
    have := VecB.new (w.alloc (.cells Tryd.zeroCells103 103)) 103
    rw [World.size_alloc] at this
    exact this
  have B0 : Below w.heap.size w W0 := by rw [hW0]; exact ((Below.refl _ w).alloc (Nat.le_refl _) _).alloc (by simp) _
  have CA := Lib.hid (add_any p 1 w.heap.size _ 0 u c W0 V0 (hT.below B0) hc hpb.2 (by omega) (by omega) (fun _ => by omega) (by omega) (fun h j hj e => by have := hT.lt h j hj; omega))
  obtain ⟨ua, un, hua⟩ : ∃ ua un, u = .slice ua c.length un := by
    obtain ⟨a, n, e, -⟩ := hT
    exact ⟨a, n, e⟩
  subst hua
  clear tb hlo hhas
  go_enter Tryd.func69, Tryd.ntmps69
  go_upto_region 2 with fail
  rw [← hW0]
  clear hW0
  go_wp2_with (go_at_call 80; refine Calls.mono CA.out ?_; rintro e w1 ⟨rfl, V1, G1⟩)
  have X1 := X0.grown G1 (by simp)
  have B1 : Below w.heap.size w w1 := B0.grown G1 B0.size (fun k e => by injection e with e; omega)
  clear V0 X0 B0 G1
  refine Calls.mono (CL.out w1 B1) ?_
  rintro e w' ⟨rfl, rfl⟩
  go_wp2_with fail
  go_loopw [10] (fun i wr => ∃ (row : Int) (f x : Int → Int), -1 ≤ row ∧ row < 1024 ∧ i = .int .i64 row ∧ VecB wr w.heap.size f ∧ VecB wr (w.heap.size + 1) x ∧ RI p E c row f x ∧ Below w.heap.size w wr) (fun i _ => (intOf i + 1).toNat)
  case atStart => exact ⟨lo, _, _, hlc.1, hlc.2, rfl, V1, X1, RS.out, B1⟩
  case round =>
    clear V1 X1 B1 CA
    obtain ⟨row, f, x, h1, h2, rfl, hV, hX, hR, hB⟩ := hrel
    by_cases hrow : 0 ≤ row
    · obtain ⟨r, rfl⟩ := Int.eq_ofNat_of_zero_le hrow
      have hr : r < 1024 := by omega
      have hf0 := hR.f0 r
      have hf1 := hR.f1 r
      have v0 := hV.cell r hr
      have EB := hE.below hB
      have e0 := EB.c0
      have TT := Lib.hid (fun n => (T.out.on hB).drewN n)
      obtain ⟨y, hy⟩ : ∃ y, y = f r := ⟨_, rfl⟩
      rw [← hy] at v0 hf0 hf1
      obtain ⟨A, hA⟩ : ∃ A, A = md p y := ⟨_, rfl⟩
      have hAb := md_bd hp y
      have C1 := Lib.hid (fun n => mod_ok p y (wr.drewN n) (TT.out n) hp)
      rw [← hA] at C1 hAb
      have HY := Lib.hid hy
      have HA := Lib.hid hA
      have HR := Lib.hid hR
      have HV := Lib.hid hV
      have HX := Lib.hid hX
      have HB := Lib.hid hB
      have HE := Lib.hid EB
      clear hy hA hR hV hX hB EB
      go_upto_region 7 with fail
      go_quiet ((go_at_call 77; exact quietly (C1.out _)))
      obtain ⟨W7, hW7⟩ : ∃ W7, W7 = wr.drewN nq := ⟨_, rfl⟩
      rw [← hW7]
      have B7 : Below wr.heap.size wr W7 := by rw [hW7]; exact below_drewN (Below.refl _ _) _
      have HB7 := Lib.hid (HB.out.trans (B7.mono HB.out.size))
      have HE7 := Lib.hid (HE.out.below B7)
      have HV7 := Lib.hid (HV.out.below B7)
      have HX7 := Lib.hid (HX.out.below B7)
      clear hW7 B7 e0 v0 HB HE HV HX
      by_cases hA0 : A = 0
      · have a0 : (A == 0) = true := beq_iff_eq.2 hA0
        have HS := Lib.hid (HR.out.skip (fun k _ _ => by rw [← HY.out, ← HA.out]; exact hA0))
        clear hA0
        go_wp2
        exact ⟨⟨(r : Int) - 1, f, x, by omega, by omega, by go_num, HV7.out, HX7.out, HS.out, HB7.out⟩, by simp [intOf] <;> omega⟩
      · have a0 : (A == 0) = false := beq_eq_false_iff_ne.2 hA0
        have e2 := HE7.out.c2
        obtain ⟨D, hD, hD1, hD2⟩ := HE7.out.map.ex
        have hwf : (Lit.int .i64 (r : Int)).wf = true := WalkArith.wf_i64 (by omega)
        have HD1 := Lib.hid hD1
        have HD2 := Lib.hid hD2
        clear hD1 hD2
        obtain ⟨bb, hbb⟩ : ∃ bb, Maps.has D (.int .i64 (r : Int)) = bb := ⟨_, rfl⟩
        cases bb with
        | false =>
          have HS := Lib.hid (HR.out.skip (fun k hk hl => by
            have := (HD1.out (r : Int)).2 ⟨k, hk, hl⟩
            rw [hbb] at this
            cases this))
          go_wp2_with (at_lookup; refine wpList_lookup_own_ok_int _ rfl _ _ 89 rfl 3 3 .i64 lawI Tryd.underlying89 Tryd.underlying3 (zeroI _) m E.length D rfl hD _ _ rfl (keyOf_int_mk Tryd.underlying3 hwf) ?_; intro ci hat hwc; rw [hbb])
          exact ⟨⟨(r : Int) - 1, f, x, by omega, by omega, by go_num, HV7.out, HX7.out, HS.out, HB7.out⟩, by simp [intOf] <;> omega⟩
        | true =>
          obtain ⟨j, hj, hlj⟩ := (HD1.out (r : Int)).1 hbb
          have hdj := HD2.out j hj
          rw [hlj] at hdj
          have e0 := HE7.out.c0
          have e1 := HE7.out.c1
          obtain ⟨ts, hl, hrow2, hi⟩ := hE.row.ex
          obtain ⟨g, vn, hvv, hcols0, hgw⟩ : ∃ g vn, vv = .slice (some ⟨g, 0, none⟩) E.length vn ∧ w.cell? ⟨g, j, none⟩ = some (ts.getD j undef) ∧ g < w.heap.size := by
            have hr2 := hrow2
            rcases hrow2.2 with ⟨_, hn⟩ | ⟨g, cap, cur, rfl, hB, hg, hc2, hm2, -, -⟩
            · omega
            · refine ⟨g, cap, rfl, ?_, (Array.getElem?_eq_some_iff.1 hg).1⟩
              have := hr2.cells (g := g) rfl j (ts.getD j undef) (by rw [List.getD_eq_getElem?_getD, List.getElem?_eq_getElem (by omega)]; rfl)
              rwa [Addr.add_lit, Nat.zero_add] at this
          have hcols := (HB7.out.cell (p := ⟨g, j, none⟩) hgw).trans hcols0
          subst hvv
          have hTj := (hi j hj).1
          have hcj := hI.cols.at_ j
          have hfj := hI.full j hj
          obtain ⟨-, l1, l2, l3, l4, -, -⟩ := low_props hcj hfj
          obtain ⟨q, hq⟩ : ∃ q, q = ml p A (pw p (lowC (E.getD j [])) (p - 2).toNat) := ⟨_, rfl⟩
          have hqb : 0 ≤ q ∧ q < p := by rw [hq]; exact md_bd hp _
          have HS := Lib.hid (HR.out.hit hp hI hj hlj (q := q) (by rw [← HY.out, ← HA.out]; exact hq))
          obtain ⟨tj, htj⟩ : ∃ tj, tj = ts.getD j undef := ⟨_, rfl⟩
          rw [← htj] at hTj hcols
          have htn : ∀ k, tj.ownBlock = some k → k < w.heap.size := hTj.lt hfj
          have CLc := Lib.hid (fun W (hb : W7.grownBy W (some (w.heap.size + 1))) => lowCoef_any tj _ W ((hTj.below HB7.out).grown hb (fun _ k e e2 => by injection e2 with e2; have := htn k e; omega)) hfj)
          obtain ⟨lc, hlc2⟩ : ∃ lc, lc = lowC (E.getD j []) := ⟨_, rfl⟩
          rw [← hlc2] at CLc l3 l4 hq
          have hlm : md p lc ≠ 0 := by rw [md_of, Int.emod_eq_of_lt (by omega) l4]; omega
          have T7 := Lib.hid (T.out.on HB7.out)
          have hgt := T.out.lt
          have CD := Lib.hid (fun W (hb : W7.grownBy W (some (w.heap.size + 1))) => div_ok p A lc W (T7.out.grown hb (fun e => by injection e with e; omega)) hp hlm)
          rw [← hq] at CD
          have x7 := HX7.out.cell j (by omega)
          have xf := HX7.out.free j
          have hne := HE7.out.ne
          have HT7 := Lib.hid (hTj.below HB7.out)
          have hT8 := htn
          have HDJ := Lib.hid hdj
          clear hq hlc2 htj hlj hl hi hrow2 hdj hcols0 hTj l1 l2 hlm htn
          go_wp2_with (at_lookup; refine wpList_lookup_own_ok_int _ rfl _ _ 89 rfl 3 3 .i64 lawI Tryd.underlying89 Tryd.underlying3 (zeroI _) m E.length D rfl hD _ _ rfl (keyOf_int_mk Tryd.underlying3 hwf) ?_; intro ci hat hwc; rw [hbb])
          obtain rfl : ci = (j : Int) := by
            have hdj := HDJ.out
            rw [hat] at hdj
            injection hdj with h
            injection h
          clear hat hwc hbb hD HDJ
          have hjl : (j : Int) < E.length := by omega
          have hj0 : (0 : Int) ≤ (j : Int) := by omega
          have hj1 : (j : Int) < 1024 := by omega
          have hsx : s ≠ w.heap.size + 1 := by have := hE.lt; omega
          have hgx : g ≠ w.heap.size + 1 := by omega
          have KC := Lib.hid (show ∀ W, W7.grownBy W (some (w.heap.size + 1)) → (W.cell? ⟨s, 0, none⟩ = some (.int .i64 p) ∧ W.cell? ⟨s, 1, none⟩ = some (.slice (some ⟨g, 0, none⟩) E.length vn)) ∧ W.cell? ⟨g, j, none⟩ = some tj from fun W hb => ⟨⟨hb.cell e0 (by intro e; injection e with e; exact hsx e), hb.cell e1 (by intro e; injection e with e; exact hsx e)⟩, hb.cell hcols (by intro e; injection e with e; exact hgx e)⟩)
          go_region_held3 (fun W => (W.cell? ⟨s, 0, none⟩ = some (.int .i64 p) ∧ W.cell? ⟨s, 1, none⟩ = some (.slice (some ⟨g, 0, none⟩) E.length vn)) ∧ W.cell? ⟨g, j, none⟩ = some tj) (exact KC.out _ (by ((repeat (first | (with_reducible apply grown_drew) | (with_reducible apply grown_set))); with_reducible exact World.grownBy.refl _ _))) (first | (go_at_call 83; (with_reducible refine Calls.mono (CLc.out _ (by ((repeat (first | (with_reducible apply grown_drew) | (with_reducible apply grown_set))); with_reducible exact World.grownBy.refl _ _))) ?_); rintro e w' ⟨rfl, rfl⟩) | (go_at_call 82; (with_reducible refine Calls.mono (CD.out _ (by ((repeat (first | (with_reducible apply grown_drew) | (with_reducible apply grown_set))); with_reducible exact World.grownBy.refl _ _))) ?_); rintro e w' ⟨rfl, rfl⟩) | fail)
          obtain ⟨W8, hW8⟩ : ∃ W8, W8 = (W7.setCell ⟨w.heap.size + 1, j, none⟩ (.int .i64 q)).drew := ⟨_, rfl⟩
          rw [← hW8]
          have G8 : W7.grownBy W8 (some (w.heap.size + 1)) := by rw [hW8]; exact grown_drew (grown_set (World.grownBy.refl _ _) _ _)
          have X8 : VecB W8 (w.heap.size + 1) (fun i => if i = (j : Int) then q else x i) := by rw [hW8]; exact (HX7.out.set (r := j) (by omega) q).drew
          have V8 := HV7.out.grown G8 (by intro e; injection e with e; omega)
          have B8 := HB7.out.grown G8 HB7.out.size (fun k e => by injection e with e; omega)
          have E8 := hE.below B8
          have e0 := E8.c0
          have e1 := E8.c1
          have x8 := X8.cell j (by omega)
          rw [if_pos rfl] at x8
          have hcols := (G8.cell hcols (by intro e; injection e with e; exact hgx e))
          have HT8 := HT7.out.grown G8 (fun _ k e e2 => by injection e2 with e2; have := (hT8 k e); omega)
          have T8 := T.out.on B8
          have CA2 := Lib.hid (add_any p (p - q) w.heap.size f ((1025 - (r : Int)) * 63001) tj _ W8.drew V8.drew HT8.drew hcj hpb.2 (by omega) (by omega) (fun i => ⟨HR.out.f0 i, HR.out.f1 i⟩) (by omega) (fun h k e e2 => by have := hT8 k e; omega))
          have HX8 := Lib.hid X8
          have HB8 := Lib.hid B8
          clear hW8 G8 X8 V8 B8 E8 HT8 T8 KC CLc CD x7 xf
          go_wp2
          go_still_tail 15, (by kernel_rfl)
          change wpList _ _ _ _ _ W8.drew
          go_wp2_with (go_at_call 80; refine Calls.mono CA2.out ?_; rintro e w9 ⟨rfl, hv9, hg9⟩)
          exact ⟨⟨(r : Int) - 1, _, _, by omega, by omega, by go_num, hv9, HX8.out.drew.grown hg9 (by intro e; injection e with e; omega), HS.out, HB8.out.drew.grown hg9 HB8.out.size (fun k e => by injection e with e; omega)⟩, by simp [intOf] <;> omega⟩
    · have hr1 : row = -1 := by omega
      subst hr1
      have EB := hE.below hB
      have e0 := EB.c0
      have hIR := hR.rest hp hc hI hlen
      have SPv := Lib.hid (fun W (hb : Below wr.heap.size wr W) => sparse_any p (.slice (some ⟨w.heap.size, 0, none⟩) 1024 1024) 1024 f W ((T.out.on hB).on hb) hp (by omega) (hV.below hb).ints)
      have SPx := Lib.hid (fun W (hb : Below wr.heap.size wr W) => sparse_any p (.slice (some ⟨w.heap.size + 1, 0, none⟩) 1024 1024) 1024 x W ((T.out.on hB).on hb) hp (by omega) (hX.below hb).ints)
      have KC := Lib.hid (show ∀ W, Below wr.heap.size wr W → W.cell? ⟨s, 0, none⟩ = some (.int .i64 p) from fun W hb => (hb.cell (p := ⟨s, 0, none⟩) EB.lt).trans e0)
      have HIR := Lib.hid hIR
      have HB := Lib.hid hB
      have HW := Lib.hid (Below.refl wr.heap.size wr)
      clear EB hIR hB hV hX hR
      go_wp2
      go_region_held3 (fun W => W.cell? ⟨s, 0, none⟩ = some (.int .i64 p)) (exact KC.out _ (by ((repeat (with_reducible apply bel_drew)); with_reducible exact HW.out))) (first | (go_at_call 60; (with_reducible refine Calls.mono (SPv.out _ (by ((repeat (with_reducible apply bel_drew)); with_reducible exact HW.out))) ?_); rintro e w2 ⟨v2, rfl, ht2, hk2, hb2⟩; have HT2 := Lib.hid ht2; have HK2 := Lib.hid hk2; have HB2 := Lib.hid hb2; replace HW := Lib.hid ((show Below wr.heap.size wr _ from (by ((repeat (with_reducible apply bel_drew)); with_reducible exact HW.out))).trans (hb2.mono (Below.size (by ((repeat (with_reducible apply bel_drew)); with_reducible exact HW.out))))); clear ht2 hk2 hb2) | (go_at_call 60; (with_reducible refine Calls.mono (SPx.out _ (by ((repeat (with_reducible apply bel_drew)); with_reducible exact HW.out))) ?_); rintro e w3 ⟨v3, rfl, ht3, hk3, hb3⟩; have HT3 := Lib.hid ht3; have HK3 := Lib.hid hk3; have HB3 := Lib.hid hb3; have HS2 := Lib.hid (Below.size HW.out); replace HW := Lib.hid ((show Below wr.heap.size wr _ from (by ((repeat (with_reducible apply bel_drew)); with_reducible exact HW.out))).trans (hb3.mono (Below.size (by ((repeat (with_reducible apply bel_drew)); with_reducible exact HW.out))))); clear ht3 hk3 hb3) | fail)
      go_wp2
      go_ret2
      have hs := HB.out.size
      have hs2 := HS2.out
      exact ⟨_, _, _, _, rfl, HT2.out.below HB3.out, HT3.out, HIR.out, fun k hk => Nat.le_trans hs (HK2.out k hk), fun k hk => by have := HK3.out k hk; omega, HB.out.trans (HW.out.mono hs)⟩
end Go.Proofs.YtdhcffboaiajeaaDoor
