/-
  What euclid.advance does.
  What natural.gcd and Number.Gcd return.
  What Number.Gcd returns.
  What Number.Compare returns.
  How rational numbers lie in memory: two integers one behind the other.
-/
import Derived.Test.YtkhebidmfjbhaaaGreatDoorZ16
import Derived.Test.YtkhebidmfjbhaaaGreatDoorZ06
import Derived.Test.YtkhebidmfjbhaaaGreatDoorZ13
import Derived.Test.YtkhebidmfjbhaaaGreatDoorZ14
namespace Go.Proofs.YtkhebidmfjbhaaaGreatDoor
open Go.RowKit

theorem Lp.le {A B C D a b : Int} (h : Lp A B C D a b) : A * a + B * b ≤ max a b := by
  have hx := h.x0
  have hy := h.y0
  rcases h.sgn with ⟨h1, h2, h3, h4, h5⟩ | ⟨h1, h2, h3, h4, h5⟩
  · have e : D * (A * a + B * b) - B * (C * a + D * b) = a := by
      clear hx hy
      grind
    have hD : 1 ≤ D := by
      rcases Int.lt_or_le 0 D with k | k
      · omega
      · have : D = 0 := by omega
        rw [this, Int.mul_zero] at h5
        have := Int.mul_nonneg_of_nonpos_of_nonpos h2 h3
        omega
    have e2 : 1 * (A * a + B * b) ≤ D * (A * a + B * b) := Int.mul_le_mul_of_nonneg_right hD hx
    have e3 := Int.mul_nonpos_of_nonpos_of_nonneg h2 hy
    omega
  · have e : C * (A * a + B * b) - A * (C * a + D * b) = b := by
      clear hx hy
      grind
    have e2 : 1 * (A * a + B * b) ≤ C * (A * a + B * b) := Int.mul_le_mul_of_nonneg_right h3 hx
    have e3 := Int.mul_nonpos_of_nonpos_of_nonneg h1 hy
    omega
/-- Some steps of the algorithm are done. -/
def Advd (g : Nat) (mn : Bool) (a b s t : Int) (w : World) (e : Ending) (w' : World) : Prop :=
  e = .returned (.tuple #[]) ∧ Below g w w' ∧
    ((∃ x1 x2 y1 y2 z1 z2 u1 u2, EB w' g x1 x2 y1 y2 z1 z2 u1 u2 (!mn) b (a % b) t (s + a / b * t)) ∨
     (∃ A B C D x1 x2 y1 y2 z1 z2 u1 u2, Lp A B C D a b ∧ B ≠ 0 ∧ EB w' g x1 x2 y1 y2 z1 z2 u1 u2 (mn != decide (C > 0)) (A * a + B * b) (C * a + D * b) (A.natAbs * s + B.natAbs * t) (C.natAbs * s + D.natAbs * t)))
set_option maxHeartbeats 1000000 in
theorem advance_any (g : Nat) (w : World) (pa va pb vb ps vs pt vt : Value) (mn : Bool) (a b s t : Int) (h : EB w g pa va pb vb ps vs pt vt mn a b s t) (hb : 0 < b) (ha9 : nl a ≤ 20000) (hb9 : nl b ≤ 20000) (hs9 : nl s ≤ 20000) (ht9 : nl t ≤ 20000) :
    Calls Tryz.prog 205 #[.pointer (some ⟨g, 0, none⟩)] w (Advd g mn a b s t w) := by
  have LEAP := Lib.hid (leap_any g w _ _ _ _ _ _ _ _ mn a b s t h ha9 hb9 hs9 ht9)
  clear h
  go_enter Tryz.func205, Tryz.ntmps205
  go_wp2_with fail
  refine LEAP.out.mono ?_
  clear LEAP
  rintro e w2 ⟨hb2, ⟨rfl, x1, x2, y1, y2, z1, z2, u1, u2, he2⟩ | ⟨rfl, A, B, C, D, x1, x2, y1, y2, z1, z2, u1, u2, hlp, hB, he2⟩⟩
  · have STEP := Lib.hid (step_any g w2 _ _ _ _ _ _ _ _ mn a b s t he2 hb ha9 hs9 ht9)
    have HB2 := Lib.hid hb2
    clear he2 hb2
    go_wp2_with fail
    refine STEP.out.mono ?_
    clear STEP
    rintro e w3 ⟨rfl, hb3, x1', x2', y1', y2', z1', z2', u1', u2', he3⟩
    have HE3 := Lib.hid he3
    have HB3 := Lib.hid (HB2.out.trans hb3)
    clear he3 hb3
    go_wp2
    go_end0
    exact ⟨rfl, HB3.out, Or.inl ⟨_, _, _, _, _, _, _, _, HE3.out⟩⟩
  · have HE2 := Lib.hid he2
    have HB2 := Lib.hid hb2
    have HL := Lib.hid hlp
    clear he2 hb2 hlp
    go_wp2
    go_end0
    exact ⟨rfl, HB2.out, Or.inr ⟨_, _, _, _, _, _, _, _, _, _, _, _, HL.out, hB, HE2.out⟩⟩
end Go.Proofs.YtkhebidmfjbhaaaGreatDoor
namespace Go.Proofs.YtkhebidmfjbhaaaGreatDoor
open Go.RowKit

theorem eb_new {W : World} {pa va pb vb ps vs pt vt : Value} {mn : Bool} {a b s t : Int} (ty : TypeId) (na : NatV W pa va a) (nb : NatV W pb vb b) (ns : NatV W ps vs s) (nt : NatV W pt vt t) : EB (W.alloc (.cells #[pa, va, pb, vb, ps, vs, pt, vt, .bool mn] ty)) W.heap.size pa va pb vb ps vs pt vt mn a b s t := by
  have hb := alloc_below W (.cells #[pa, va, pb, vb, ps, vs, pt, vt, .bool mn] ty)
  refine ⟨⟨⟨?_, ?_⟩, ⟨?_, ?_⟩, na.below hb⟩, ⟨⟨?_, ?_⟩, ⟨?_, ?_⟩, nb.below hb⟩, ⟨⟨?_, ?_⟩, ⟨?_, ?_⟩, ns.below hb⟩, ⟨⟨?_, ?_⟩, ⟨?_, ?_⟩, nt.below hb⟩, ⟨?_, ?_⟩⟩ <;> first | (rw [World.frozen?_alloc_at _ _ _ _ rfl]) | (rw [World.cell?_alloc_at _ _ _ _ rfl]; rfl)
theorem gcd_abs (x y : Int) : (Int.gcd (x.natAbs : Int) (y.natAbs : Int) : Int) = Int.gcd x y := by
  unfold Int.gcd
  simp
/-- A stage of the run: G is the greatest common divisor, at most k rounds are to come. -/
def Stage (w W : World) (g : Nat) (G : Int) (k : Nat) : Prop :=
  ∃ pa va pb vb ps vs pt vt mn a b, Below g w W ∧ EB W g pa va pb vb ps vs pt vt mn a b 0 0 ∧ (Int.gcd a b : Int) = G ∧ nl a ≤ 20000 ∧ nl b ≤ 20000 ∧ b.toNat ≤ k
theorem gcd_step (a b : Int) : (Int.gcd b (a % b) : Int) = Int.gcd a b := gcd_emod a b
theorem Advd.stage {w W0 w' : World} {g : Nat} {mn : Bool} {a b G : Int} {e : Ending} (h : Advd g mn a b 0 0 w e w') (hb0 : Below g W0 w) (ha : 0 ≤ a) (hb : 0 < b) (hg : (Int.gcd a b : Int) = G) (ha9 : nl a ≤ 20000) (hb9 : nl b ≤ 20000) : e = .returned (.tuple #[]) ∧ ∃ k, k < b.toNat ∧ Stage W0 w' g G k := by
  obtain ⟨rfl, hbel, ⟨x1, x2, y1, y2, z1, z2, u1, u2, he⟩ | ⟨A, B, C, D, x1, x2, y1, y2, z1, z2, u1, u2, hlp, hB, he⟩⟩ := h
  · have h0 := Int.emod_nonneg a (show b ≠ 0 by omega)
    have h1 := Int.emod_lt_of_pos a hb
    rw [Int.mul_zero, Int.add_zero] at he
    exact ⟨rfl, (a % b).toNat, by omega, _, _, _, _, _, _, _, _, _, _, _, hb0.trans hbel, he, (gcd_emod a b).trans hg, hb9, Nat.le_trans (nl_mono (by omega) (by omega)) hb9, Nat.le_refl _⟩
  · have hlt := hlp.lt hB
    have hy0 := hlp.y0
    have hle := hlp.le
    simp only [Int.mul_zero, Int.add_zero] at he
    refine ⟨rfl, (C * a + D * b).toNat, by omega, _, _, _, _, _, _, _, _, _, _, _, hb0.trans hbel, he, ?_, ?_, ?_, Nat.le_refl _⟩
    · rw [gcd_blend (by rcases hlp.sgn with ⟨_, _, _, _, q⟩ | ⟨_, _, _, _, q⟩; exact Or.inl q; exact Or.inr q)]; exact hg
    · exact Nat.le_trans (nl_mono (by omega) hle) (by rcases Int.le_total a b with q | q; rw [Int.max_eq_right q]; exact hb9; rw [Int.max_eq_left q]; exact ha9)
    · exact Nat.le_trans (nl_mono (by omega) (by omega)) hb9
set_option maxHeartbeats 4000000 in
set_option maxRecDepth 100000 in
theorem natgcd_any (p v q u : Value) (x y : Int) (w : World) (hu : NatV w p v x) (hv : NatV w q u y) (hx : nl x ≤ 20000) (hy : nl y ≤ 20000) :
    Calls Tryz.prog 175 #[.agg #[p, v], .agg #[q, u]] w (GivesN (Int.gcd x y) w) := by
  have hx0 := hu.1
  have hy0 := hv.1
  have hU := hu
  have hV := hv
  obtain ⟨t, a, n, rfl, rfl, -, -, -, -, -, -⟩ := hu.form
  obtain ⟨s, d, m, rfl, rfl, -, -, -, -, -, -⟩ := hv.form
  have hB := Box2.new w (.int .u64 t) (.slice a n n) (.int .u64 s) (.slice d m m) 72
  obtain ⟨W0, hW0⟩ : ∃ W0, W0 = (((w.alloc (.cells #[.int .u64 t, .slice a n n] 72)).alloc (.cells #[.int .u64 s, .slice d m m] 72)).alloc (.cells #[.int .u64 0, .slice none 0 0] 72)) := ⟨_, rfl⟩
  rw [← hW0] at hB
  have HB := Lib.hid hB
  have hz0 : W0.heap.size = w.heap.size + 1 + 1 + 1 := by rw [hW0]; simp
  have he0 := eb_new (mn := false) 190 (hU.below hB.below) (hV.below hB.below) (NatV.zero W0) (NatV.zero W0)
  obtain ⟨G, hG⟩ : ∃ G : Int, G = Int.gcd x y := ⟨_, rfl⟩
  rw [← hG]
  have ST := Lib.hid (show Stage W0 (W0.alloc (.cells #[.int .u64 t, .slice a n n, .int .u64 s, .slice d m m, .int .u64 0, .slice none 0 0, .int .u64 0, .slice none 0 0, .bool false] 190)) W0.heap.size G y.toNat from ⟨_, _, _, _, _, _, _, _, _, x, y, alloc_below _ _, he0, hG.symm, hx, hy, Nat.le_refl _⟩)
  obtain ⟨hsz, _, c00, c01, c10, c11, _⟩ := hB
  rw [hz0] at ST
  clear hu hv hU hV he0 hG hx hy
  go_enter Tryz.func175, Tryz.ntmps175
  go_wp2_with fail
  rw [← hW0]
  clear hW0 c00 c01 c10 c11 hz0
  go_loopg [] y.toNat (fun gk wr => Stage W0 wr (w.heap.size + 1 + 1 + 1) G gk)
  case atStart => exact ST.out
  case round =>
    clear ST
    obtain ⟨pa, va, pb, vb, ps, vs, pt, vt, mn, a, b, hbe, he, hg, ha9, hb9, hk⟩ := hrel
    have ha0 := he.a.n.1
    have hb0 := he.b.n.1
    have BE := Lib.hid hbe
    have EH := Lib.hid he
    have HG := Lib.hid hg
    obtain ⟨f1, a1, n1, rfl, rfl, -, -, -, -, -, -⟩ := he.a.n.form
    obtain ⟨f2, a2, n2, rfl, rfl, -, -, -, -, -, -⟩ := he.b.n.form
    clear hbe he hg
    obtain ⟨⟨c0, c1⟩, ⟨c2, c3⟩, _⟩ := EH.out.a
    obtain ⟨⟨c4, c5⟩, ⟨c6, c7⟩, _⟩ := EH.out.b
    by_cases hbz : b = 0
    · have hGa : a = G := by have := HG.out; rw [hbz, Int.gcd_zero_right] at this; omega
      have HGA := Lib.hid hGa
      clear hGa
      subst hbz
      go_wp2_with fail
      refine (isZero_true _ _ _ EH.out.b.n).mono ?_
      rintro e w1 ⟨rfl, rfl⟩
      replace BE := Lib.hid (BE.out.trans ((alloc_below wr (.cells #[.int .u64 f2, .slice a2 n2 n2] 72)).mono (Nat.le_of_lt EH.out.lt)))
      replace EH := Lib.hid (EH.out.step (alloc_below wr (.cells #[.int .u64 f2, .slice a2 n2 n2] 72)))
      replace BE := Lib.hid (BE.out.trans ((alloc_below _ (.cells #[.int .u64 f2, .slice a2 n2 n2] 72)).mono (Nat.le_of_lt EH.out.lt)))
      replace EH := Lib.hid (EH.out.step (alloc_below _ (.cells #[.int .u64 f2, .slice a2 n2 n2] 72)))
      generalize (wr.alloc (.cells #[.int .u64 f2, .slice a2 n2 n2] 72)).alloc (.cells #[.int .u64 f2, .slice a2 n2 n2] 72) = W1 at *
      clear c0 c1 c2 c3 c4 c5 c6 c7
      obtain ⟨⟨c0, c1⟩, ⟨c2, c3⟩, _⟩ := EH.out.a
      obtain ⟨⟨c4, c5⟩, ⟨c6, c7⟩, _⟩ := EH.out.b
      go_wp2_with fail
      by_cases haw : 2 < nl a
      · skip
        go_region
        all_goals go_wp2_with fail
        replace BE := Lib.hid (BE.out.drew)
        replace EH := Lib.hid (EH.out.step (below_drew _))
        generalize W1.drew = W7 at *
        refine (isWord_no _ _ a _ EH.out.a.n (by omega)).mono ?_
        rintro e w1 ⟨rfl, rfl⟩
        replace BE := Lib.hid (BE.out.trans ((alloc_below W7 (.cells #[.int .u64 f1, .slice a1 n1 n1] 72)).mono (Nat.le_of_lt EH.out.lt)))
        replace EH := Lib.hid (EH.out.step (alloc_below W7 (.cells #[.int .u64 f1, .slice a1 n1 n1] 72)))
        generalize W7.alloc (.cells #[.int .u64 f1, .slice a1 n1 n1] 72) = W8 at *
        clear c0 c1 c2 c3 c4 c5 c6 c7
        obtain ⟨⟨c0, c1⟩, ⟨c2, c3⟩, _⟩ := EH.out.a
        obtain ⟨⟨c4, c5⟩, ⟨c6, c7⟩, _⟩ := EH.out.b
        have hres := HB.out.res.below BE.out (by omega)
        have RS := Lib.hid hres
        obtain ⟨r0, r1, r2, r3⟩ := hres
        go_wp2_with fail
        go_wp2
        exact bodyPost_ret (v := .agg #[.int .u64 f1, .slice a1 n1 n1]) (by simp [results, Tryz.results175, go_sem, r0, r1]) rfl (giveN (by have h9 := EH.out.a.n.put RS.out.c1 (.int .u64 f1) (.slice a1 n1 n1); rwa [HGA.out] at h9) (below_set (below_set (HB.out.below.trans (BE.out.mono (by omega))) 0 (by omega) _) 1 (by omega) _))
      · have hbw : nl 0 ≤ 2 := by rw [nl_zero]; omega
        go_region
        all_goals go_wp2_with fail
        replace BE := Lib.hid (BE.out.drew)
        replace EH := Lib.hid (EH.out.step (below_drew _))
        generalize W1.drew = W7 at *
        refine (isWord_yes _ _ a _ EH.out.a.n (by omega)).mono ?_
        rintro e w1 ⟨rfl, rfl⟩
        replace BE := Lib.hid (BE.out.trans ((alloc_below W7 (.cells #[.int .u64 f1, .slice a1 n1 n1] 72)).mono (Nat.le_of_lt EH.out.lt)))
        replace EH := Lib.hid (EH.out.step (alloc_below W7 (.cells #[.int .u64 f1, .slice a1 n1 n1] 72)))
        generalize W7.alloc (.cells #[.int .u64 f1, .slice a1 n1 n1] 72) = W8 at *
        clear c0 c1 c2 c3 c4 c5 c6 c7
        obtain ⟨⟨c0, c1⟩, ⟨c2, c3⟩, _⟩ := EH.out.a
        obtain ⟨⟨c4, c5⟩, ⟨c6, c7⟩, _⟩ := EH.out.b
        have hres := HB.out.res.below BE.out (by omega)
        have RS := Lib.hid hres
        obtain ⟨r0, r1, r2, r3⟩ := hres
        go_wp2_with fail
        have HA := Lib.hid (EH.out.a.n.small (by omega)).1
        have HBW := Lib.hid (EH.out.b.n.small (by omega)).1
        have hf1 : f1 = a := by have := HA.out; injection this
        have hf2 : f2 = 0 := by have := HBW.out; injection this
        subst hf1
        subst hf2
        have ha1 := (nl_word ha0).1 (by omega)
        have hb1 := (nl_word hb0).1 (by omega)
        clear c0 c1 c2 c3 c4 c5 c6 c7
        go_loopw [6, 7] (fun x y wr => ∃ (X Y : Int) (dd : Nat), 0 ≤ X ∧ X < 1000000000000000000 ∧ 0 ≤ Y ∧ Y < 1000000000000000000 ∧ Hid ((Int.gcd X Y : Int) = G) ∧ x = .int .u64 X ∧ y = .int .u64 Y ∧ wr = W8.drewN dd) (fun _ y _ => (intOf y).toNat)
        case atStart => exact ⟨_, _, 0, ha0, ha1, hb0, hb1, HG.out, rfl, rfl, rfl⟩
        case round =>
          obtain ⟨X, Y, dd, hX0, hX1, hY0, hY1, HXY, rfl, rfl, rfl⟩ := hrel
          by_cases hYz : Y = 0
          · subst hYz
            have hXG : X = G := by have := HXY.out; rw [Int.gcd_zero_right] at this; omega
            have HXG := Lib.hid hXG
            have RD := Lib.hid (show ResN (W8.drewN dd) (w.heap.size + 1 + 1) from ⟨RS.out.c0, RS.out.c1, RS.out.f0, RS.out.f1⟩)
            have BD := Lib.hid (below_drewN (HB.out.below.trans (BE.out.mono (show w.heap.size ≤ w.heap.size + 1 + 1 + 1 by omega))) dd)
            clear hXG
            generalize W8.drewN dd = W9 at *
            clear r0 r1 r2 r3
            obtain ⟨r0, r1, r2, r3⟩ := RD.out
            go_wp2
            exact bodyPost_ret (v := .agg #[.int .u64 X, .slice none 0 0]) (by simp [results, Tryz.results175, go_sem, r0, r1]) rfl (giveN (by have h9 := (NatV.word (w := W9) hX0 ((nl_word hX0).2 hX1)).put r1 (.int .u64 X) (.slice none 0 0); rwa [HXG.out] at h9 ⊢) (below_set (below_set BD.out 0 (by omega) _) 1 (by omega) _))
          · have hm0 := Int.emod_nonneg X hYz
            have hm1 := Int.emod_lt_of_pos X (show 0 < Y by omega)
            have hyne : ¬ Y = 0 := hYz
            go_wp2_with fail
            go_quiet (fail)
            go_wp2
            go_roundw
            case rel => exact ⟨Y, X % Y, _, hY0, hY1, hm0, by omega, (gcd_step X Y).trans HXY.out, rfl, rfl, by rw [World.drewN_drewN]⟩
            case measure => simp [intOf]; omega
    · by_cases haw : 2 < nl a
      · go_wp2_with fail
        refine (isZero_false _ _ b _ EH.out.b.n hbz).mono ?_
        rintro e w1 ⟨rfl, rfl⟩
        replace BE := Lib.hid (BE.out.trans ((alloc_below wr (.cells #[.int .u64 f2, .slice a2 n2 n2] 72)).mono (Nat.le_of_lt EH.out.lt)))
        replace EH := Lib.hid (EH.out.step (alloc_below wr (.cells #[.int .u64 f2, .slice a2 n2 n2] 72)))
        replace BE := Lib.hid (BE.out.trans ((alloc_below _ (.cells #[.int .u64 f2, .slice a2 n2 n2] 72)).mono (Nat.le_of_lt EH.out.lt)))
        replace EH := Lib.hid (EH.out.step (alloc_below _ (.cells #[.int .u64 f2, .slice a2 n2 n2] 72)))
        generalize (wr.alloc (.cells #[.int .u64 f2, .slice a2 n2 n2] 72)).alloc (.cells #[.int .u64 f2, .slice a2 n2 n2] 72) = W1 at *
        clear c0 c1 c2 c3 c4 c5 c6 c7
        obtain ⟨⟨c0, c1⟩, ⟨c2, c3⟩, _⟩ := EH.out.a
        obtain ⟨⟨c4, c5⟩, ⟨c6, c7⟩, _⟩ := EH.out.b
        go_wp2_with fail
        refine (isWord_no _ _ a _ EH.out.a.n (by omega)).mono ?_
        rintro e w1 ⟨rfl, rfl⟩
        replace BE := Lib.hid (BE.out.trans ((alloc_below W1 (.cells #[.int .u64 f1, .slice a1 n1 n1] 72)).mono (Nat.le_of_lt EH.out.lt)))
        replace EH := Lib.hid (EH.out.step (alloc_below W1 (.cells #[.int .u64 f1, .slice a1 n1 n1] 72)))
        generalize W1.alloc (.cells #[.int .u64 f1, .slice a1 n1 n1] 72) = W2 at *
        clear c0 c1 c2 c3 c4 c5 c6 c7
        obtain ⟨⟨c0, c1⟩, ⟨c2, c3⟩, _⟩ := EH.out.a
        obtain ⟨⟨c4, c5⟩, ⟨c6, c7⟩, _⟩ := EH.out.b
        go_wp2_with fail
        refine (advance_any _ _ _ _ _ _ _ _ _ _ mn a b 0 0 EH.out (by omega) ha9 hb9 (by rw [nl_zero]; omega) (by rw [nl_zero]; omega)).mono ?_
        rintro e w9 hadv
        obtain ⟨rfl, k, hk2, hst⟩ := hadv.stage BE.out (by omega) (by omega) HG.out ha9 hb9
        have HS := Lib.hid hst
        clear hst hadv c0 c1 c2 c3 c4 c5 c6 c7 EH BE
        go_wp2
        go_roundg k
        case measure => omega
        case rel => exact HS.out
      · by_cases hbw : 2 < nl b
        · go_wp2_with fail
          refine (isZero_false _ _ b _ EH.out.b.n hbz).mono ?_
          rintro e w1 ⟨rfl, rfl⟩
          replace BE := Lib.hid (BE.out.trans ((alloc_below wr (.cells #[.int .u64 f2, .slice a2 n2 n2] 72)).mono (Nat.le_of_lt EH.out.lt)))
          replace EH := Lib.hid (EH.out.step (alloc_below wr (.cells #[.int .u64 f2, .slice a2 n2 n2] 72)))
          replace BE := Lib.hid (BE.out.trans ((alloc_below _ (.cells #[.int .u64 f2, .slice a2 n2 n2] 72)).mono (Nat.le_of_lt EH.out.lt)))
          replace EH := Lib.hid (EH.out.step (alloc_below _ (.cells #[.int .u64 f2, .slice a2 n2 n2] 72)))
          generalize (wr.alloc (.cells #[.int .u64 f2, .slice a2 n2 n2] 72)).alloc (.cells #[.int .u64 f2, .slice a2 n2 n2] 72) = W1 at *
          clear c0 c1 c2 c3 c4 c5 c6 c7
          obtain ⟨⟨c0, c1⟩, ⟨c2, c3⟩, _⟩ := EH.out.a
          obtain ⟨⟨c4, c5⟩, ⟨c6, c7⟩, _⟩ := EH.out.b
          go_wp2_with fail
          refine (isWord_yes _ _ a _ EH.out.a.n (by omega)).mono ?_
          rintro e w1 ⟨rfl, rfl⟩
          replace BE := Lib.hid (BE.out.trans ((alloc_below W1 (.cells #[.int .u64 f1, .slice a1 n1 n1] 72)).mono (Nat.le_of_lt EH.out.lt)))
          replace EH := Lib.hid (EH.out.step (alloc_below W1 (.cells #[.int .u64 f1, .slice a1 n1 n1] 72)))
          generalize W1.alloc (.cells #[.int .u64 f1, .slice a1 n1 n1] 72) = W2 at *
          clear c0 c1 c2 c3 c4 c5 c6 c7
          obtain ⟨⟨c0, c1⟩, ⟨c2, c3⟩, _⟩ := EH.out.a
          obtain ⟨⟨c4, c5⟩, ⟨c6, c7⟩, _⟩ := EH.out.b
          go_wp2_with fail
          refine (isWord_no _ _ b _ EH.out.b.n (by omega)).mono ?_
          rintro e w1 ⟨rfl, rfl⟩
          replace BE := Lib.hid (BE.out.trans ((alloc_below W2 (.cells #[.int .u64 f2, .slice a2 n2 n2] 72)).mono (Nat.le_of_lt EH.out.lt)))
          replace EH := Lib.hid (EH.out.step (alloc_below W2 (.cells #[.int .u64 f2, .slice a2 n2 n2] 72)))
          generalize W2.alloc (.cells #[.int .u64 f2, .slice a2 n2 n2] 72) = W3 at *
          clear c0 c1 c2 c3 c4 c5 c6 c7
          obtain ⟨⟨c0, c1⟩, ⟨c2, c3⟩, _⟩ := EH.out.a
          obtain ⟨⟨c4, c5⟩, ⟨c6, c7⟩, _⟩ := EH.out.b
          go_wp2_with fail
          refine (advance_any _ _ _ _ _ _ _ _ _ _ mn a b 0 0 EH.out (by omega) ha9 hb9 (by rw [nl_zero]; omega) (by rw [nl_zero]; omega)).mono ?_
          rintro e w9 hadv
          obtain ⟨rfl, k, hk2, hst⟩ := hadv.stage BE.out (by omega) (by omega) HG.out ha9 hb9
          have HS := Lib.hid hst
          clear hst hadv c0 c1 c2 c3 c4 c5 c6 c7 EH BE
          go_wp2
          go_roundg k
          case measure => omega
          case rel => exact HS.out
        · go_wp2_with fail
          refine (isZero_false _ _ b _ EH.out.b.n hbz).mono ?_
          rintro e w1 ⟨rfl, rfl⟩
          replace BE := Lib.hid (BE.out.trans ((alloc_below wr (.cells #[.int .u64 f2, .slice a2 n2 n2] 72)).mono (Nat.le_of_lt EH.out.lt)))
          replace EH := Lib.hid (EH.out.step (alloc_below wr (.cells #[.int .u64 f2, .slice a2 n2 n2] 72)))
          replace BE := Lib.hid (BE.out.trans ((alloc_below _ (.cells #[.int .u64 f2, .slice a2 n2 n2] 72)).mono (Nat.le_of_lt EH.out.lt)))
          replace EH := Lib.hid (EH.out.step (alloc_below _ (.cells #[.int .u64 f2, .slice a2 n2 n2] 72)))
          generalize (wr.alloc (.cells #[.int .u64 f2, .slice a2 n2 n2] 72)).alloc (.cells #[.int .u64 f2, .slice a2 n2 n2] 72) = W1 at *
          clear c0 c1 c2 c3 c4 c5 c6 c7
          obtain ⟨⟨c0, c1⟩, ⟨c2, c3⟩, _⟩ := EH.out.a
          obtain ⟨⟨c4, c5⟩, ⟨c6, c7⟩, _⟩ := EH.out.b
          go_wp2_with fail
          refine (isWord_yes _ _ a _ EH.out.a.n (by omega)).mono ?_
          rintro e w1 ⟨rfl, rfl⟩
          replace BE := Lib.hid (BE.out.trans ((alloc_below W1 (.cells #[.int .u64 f1, .slice a1 n1 n1] 72)).mono (Nat.le_of_lt EH.out.lt)))
          replace EH := Lib.hid (EH.out.step (alloc_below W1 (.cells #[.int .u64 f1, .slice a1 n1 n1] 72)))
          generalize W1.alloc (.cells #[.int .u64 f1, .slice a1 n1 n1] 72) = W2 at *
          clear c0 c1 c2 c3 c4 c5 c6 c7
          obtain ⟨⟨c0, c1⟩, ⟨c2, c3⟩, _⟩ := EH.out.a
          obtain ⟨⟨c4, c5⟩, ⟨c6, c7⟩, _⟩ := EH.out.b
          go_wp2_with fail
          refine (isWord_yes _ _ b _ EH.out.b.n (by omega)).mono ?_
          rintro e w1 ⟨rfl, rfl⟩
          replace BE := Lib.hid (BE.out.trans ((alloc_below W2 (.cells #[.int .u64 f2, .slice a2 n2 n2] 72)).mono (Nat.le_of_lt EH.out.lt)))
          replace EH := Lib.hid (EH.out.step (alloc_below W2 (.cells #[.int .u64 f2, .slice a2 n2 n2] 72)))
          generalize W2.alloc (.cells #[.int .u64 f2, .slice a2 n2 n2] 72) = W3 at *
          clear c0 c1 c2 c3 c4 c5 c6 c7
          obtain ⟨⟨c0, c1⟩, ⟨c2, c3⟩, _⟩ := EH.out.a
          obtain ⟨⟨c4, c5⟩, ⟨c6, c7⟩, _⟩ := EH.out.b
          go_wp2_with fail
          go_region
          all_goals go_wp2_with fail
          replace BE := Lib.hid (BE.out.drew)
          replace EH := Lib.hid (EH.out.step (below_drew _))
          generalize W3.drew = W7 at *
          refine (isWord_yes _ _ a _ EH.out.a.n (by omega)).mono ?_
          rintro e w1 ⟨rfl, rfl⟩
          replace BE := Lib.hid (BE.out.trans ((alloc_below W7 (.cells #[.int .u64 f1, .slice a1 n1 n1] 72)).mono (Nat.le_of_lt EH.out.lt)))
          replace EH := Lib.hid (EH.out.step (alloc_below W7 (.cells #[.int .u64 f1, .slice a1 n1 n1] 72)))
          generalize W7.alloc (.cells #[.int .u64 f1, .slice a1 n1 n1] 72) = W8 at *
          clear c0 c1 c2 c3 c4 c5 c6 c7
          obtain ⟨⟨c0, c1⟩, ⟨c2, c3⟩, _⟩ := EH.out.a
          obtain ⟨⟨c4, c5⟩, ⟨c6, c7⟩, _⟩ := EH.out.b
          have hres := HB.out.res.below BE.out (by omega)
          have RS := Lib.hid hres
          obtain ⟨r0, r1, r2, r3⟩ := hres
          go_wp2_with fail
          have HA := Lib.hid (EH.out.a.n.small (by omega)).1
          have HBW := Lib.hid (EH.out.b.n.small (by omega)).1
          have hf1 : f1 = a := by have := HA.out; injection this
          have hf2 : f2 = b := by have := HBW.out; injection this
          subst hf1
          subst hf2
          have ha1 := (nl_word ha0).1 (by omega)
          have hb1 := (nl_word hb0).1 (by omega)
          clear c0 c1 c2 c3 c4 c5 c6 c7
          go_loopw [6, 7] (fun x y wr => ∃ (X Y : Int) (dd : Nat), 0 ≤ X ∧ X < 1000000000000000000 ∧ 0 ≤ Y ∧ Y < 1000000000000000000 ∧ Hid ((Int.gcd X Y : Int) = G) ∧ x = .int .u64 X ∧ y = .int .u64 Y ∧ wr = W8.drewN dd) (fun _ y _ => (intOf y).toNat)
          case atStart => exact ⟨_, _, 0, ha0, ha1, hb0, hb1, HG.out, rfl, rfl, rfl⟩
          case round =>
            obtain ⟨X, Y, dd, hX0, hX1, hY0, hY1, HXY, rfl, rfl, rfl⟩ := hrel
            by_cases hYz : Y = 0
            · subst hYz
              have hXG : X = G := by have := HXY.out; rw [Int.gcd_zero_right] at this; omega
              have HXG := Lib.hid hXG
              have RD := Lib.hid (show ResN (W8.drewN dd) (w.heap.size + 1 + 1) from ⟨RS.out.c0, RS.out.c1, RS.out.f0, RS.out.f1⟩)
              have BD := Lib.hid (below_drewN (HB.out.below.trans (BE.out.mono (show w.heap.size ≤ w.heap.size + 1 + 1 + 1 by omega))) dd)
              clear hXG
              generalize W8.drewN dd = W9 at *
              clear r0 r1 r2 r3
              obtain ⟨r0, r1, r2, r3⟩ := RD.out
              go_wp2
              exact bodyPost_ret (v := .agg #[.int .u64 X, .slice none 0 0]) (by simp [results, Tryz.results175, go_sem, r0, r1]) rfl (giveN (by have h9 := (NatV.word (w := W9) hX0 ((nl_word hX0).2 hX1)).put r1 (.int .u64 X) (.slice none 0 0); rwa [HXG.out] at h9 ⊢) (below_set (below_set BD.out 0 (by omega) _) 1 (by omega) _))
            · have hm0 := Int.emod_nonneg X hYz
              have hm1 := Int.emod_lt_of_pos X (show 0 < Y by omega)
              have hyne : ¬ Y = 0 := hYz
              go_wp2_with fail
              go_quiet (fail)
              go_wp2
              go_roundw
              case rel => exact ⟨Y, X % Y, _, hY0, hY1, hm0, by omega, (gcd_step X Y).trans HXY.out, rfl, rfl, by rw [World.drewN_drewN]⟩
              case measure => simp [intOf]; omega
end Go.Proofs.YtkhebidmfjbhaaaGreatDoor
namespace Go.Proofs.YtkhebidmfjbhaaaGreatDoor
open Go.RowKit

set_option maxHeartbeats 1000000 in
theorem Gcd_any (p v q u : Value) (b c : Bool) (x y : Int) (w : World) (hu : NatV w p v x.natAbs) (hv : NatV w q u y.natAbs) (hx : nl x.natAbs ≤ 20000) (hy : nl y.natAbs ≤ 20000) :
    Calls Tryz.prog 141 #[.agg #[p, v, .bool b], .agg #[q, u, .bool c]] w (GivesZ (Int.gcd x y) w) := by
  rw [← gcd_abs]
  have OP := Lib.hid (fun W (h : Below w.heap.size w W) => natgcd_any _ _ _ _ _ _ W (hu.below h) (hv.below h) hx hy)
  obtain ⟨t, a, n, rfl, rfl, -, -, -, -, -, -⟩ := hu.form
  obtain ⟨s, d, m, rfl, rfl, -, -, -, -, -, -⟩ := hv.form
  obtain ⟨G, hG⟩ : ∃ G : Int, G = Int.gcd (x.natAbs : Int) (y.natAbs : Int) := ⟨_, rfl⟩
  rw [← hG] at OP ⊢
  have hB := Box3.new w (.int .u64 t) (.slice a n n) b (.int .u64 s) (.slice d m m) c 74
  obtain ⟨W0, hW0⟩ : ∃ W0, W0 = (((w.alloc (.cells #[.int .u64 t, .slice a n n, .bool b] 74)).alloc (.cells #[.int .u64 s, .slice d m m, .bool c] 74)).alloc (.cells #[.int .u64 0, .slice none 0 0, .bool false] 74)) := ⟨_, rfl⟩
  rw [← hW0] at hB
  have ST := Lib.hid hB
  obtain ⟨hsz, _, c00, c01, c02, c10, c11, c12, _⟩ := hB
  clear hu hv hx hy hG
  go_enter Tryz.func141, Tryz.ntmps141
  go_wp2_with fail
  rw [← hW0]
  clear hW0
  refine (OP.out _ ST.out.below).mono ?_
  rintro e w5 ⟨p5, v5, rfl, hv5, hb5⟩
  replace ST := Lib.hid (ST.out.step hb5)
  clear c00 c01 c02 c10 c11 c12 hb5
  go_wp2_with fail
  refine (signed_false p5 v5 G w5 hv5).mono ?_
  rintro e w6 ⟨p6, v6, rfl, hv6, hb6⟩
  have H6 := Lib.hid hv6
  obtain ⟨s6, hs6⟩ : ∃ s6, s6 = decide (G < 0) := ⟨_, rfl⟩
  rw [← hs6]
  have HS6 := Lib.hid hs6
  replace ST := Lib.hid (ST.out.step hb6)
  obtain ⟨r0, r1, r2, r3, r4, r5⟩ := ST.out.res
  obtain ⟨t9, a9, n9, rfl, rfl, -, -, -, -, -, -⟩ := hv6.form
  clear hv6 hv5 hb6 hs6
  go_wp2
  exact bodyPost_ret (v := .agg #[.int .u64 t9, .slice a9 n9 n9, .bool s6]) (by simp [results, Tryz.results141, go_sem, r0, r1, r2]) rfl (ST.out.fin H6.out HS6.out)
end Go.Proofs.YtkhebidmfjbhaaaGreatDoor
namespace Go.Proofs.YtkhebidmfjbhaaaGreatDoor
open Go.RowKit

/-- The boxes of two integers, from the end of w on. -/
structure Box3n (w W : World) (p v : Value) (b : Bool) (q u : Value) (c : Bool) : Prop where
  sz : w.heap.size + 1 < W.heap.size
  below : Below w.heap.size w W
  p0 : W.cell? ⟨w.heap.size, 0, none⟩ = some p
  p1 : W.cell? ⟨w.heap.size, 1, none⟩ = some v
  p2 : W.cell? ⟨w.heap.size, 2, none⟩ = some (.bool b)
  q0 : W.cell? ⟨w.heap.size + 1, 0, none⟩ = some q
  q1 : W.cell? ⟨w.heap.size + 1, 1, none⟩ = some u
  q2 : W.cell? ⟨w.heap.size + 1, 2, none⟩ = some (.bool c)
theorem Box3n.new (w : World) (p v : Value) (b : Bool) (q u : Value) (c : Bool) (T : TypeId) : Box3n w ((w.alloc (.cells #[p, v, .bool b] T)).alloc (.cells #[q, u, .bool c] T)) p v b q u c where
  sz := by simp
  below := ((Below.refl _ _).alloc (Nat.le_refl _) _).alloc (by simp) _
  p0 := by rw [World.cell?_alloc_past _ _ _ (by simp), World.cell?_alloc_new]; rfl
  p1 := by rw [World.cell?_alloc_past _ _ _ (by simp), World.cell?_alloc_new]; rfl
  p2 := by rw [World.cell?_alloc_past _ _ _ (by simp), World.cell?_alloc_new]; rfl
  q0 := by rw [World.cell?_alloc_at _ _ _ _ (by simp)]; rfl
  q1 := by rw [World.cell?_alloc_at _ _ _ _ (by simp)]; rfl
  q2 := by rw [World.cell?_alloc_at _ _ _ _ (by simp)]; rfl
theorem Box3n.step {w W W' : World} {p v q u : Value} {b c : Bool} (h : Box3n w W p v b q u c) (hb : Below W.heap.size W W') : Box3n w W' p v b q u c := by
  have h1 := h.sz
  exact ⟨by have := hb.size; omega, h.below.trans (hb.mono (by omega)), (below_at hb 0 (by omega)).trans h.p0, (below_at hb 1 (by omega)).trans h.p1, (below_at hb 2 (by omega)).trans h.p2, (below_at hb 0 (by omega)).trans h.q0, (below_at hb 1 (by omega)).trans h.q1, (below_at hb 2 (by omega)).trans h.q2⟩

set_option maxHeartbeats 2000000 in
theorem Compare_ne (p v q u : Value) (b c : Bool) (hbc : (b == c) = false) (x y : Int) (w : World) (hu : NatV w p v x.natAbs) (hv : NatV w q u y.natAbs) (hb : b = decide (x < 0)) (hc : c = decide (y < 0)) :
    Calls Tryz.prog 145 #[.agg #[p, v, .bool b], .agg #[q, u, .bool c]] w (GivesI (cmp3 x y) w) := by
  have SX := Lib.hid (fun W (h : Below w.heap.size w W) => SignN_any p v x b W (hu.below h) hb)
  have SY := Lib.hid (fun W (h : Below w.heap.size w W) => SignN_any q u y c W (hv.below h) hc)
  have hcm : cmp3 (sg x) (sg y) = cmp3 x y := by
    rw [hb, hc] at hbc
    have h1 : ¬ (x < 0 ↔ y < 0) := by intro e; simp [e] at hbc
    unfold cmp3 sg
    by_cases hx : x < 0
    · rw [if_pos hx, if_neg (show ¬ y < 0 by omega), if_pos (show x < y by omega)]
      by_cases hy : y = 0
      · rw [if_pos hy]; rfl
      · rw [if_neg hy]; rfl
    · have hy : y < 0 := by omega
      rw [if_neg hx, if_pos hy, if_neg (show ¬ x < y by omega), if_pos (show y < x by omega)]
      by_cases hx0 : x = 0
      · rw [if_pos hx0]; rfl
      · rw [if_neg hx0]; rfl
  have HCM := Lib.hid hcm
  obtain ⟨sx, hsx⟩ : ∃ sx, sx = sg x := ⟨_, rfl⟩
  obtain ⟨sy, hsy⟩ : ∃ sy, sy = sg y := ⟨_, rfl⟩
  rw [← hsx] at SX HCM
  rw [← hsy] at SY HCM
  obtain ⟨t, a, n, rfl, rfl, -, -, -, -, -, -⟩ := hu.form
  obtain ⟨s, d, m, rfl, rfl, -, -, -, -, -, -⟩ := hv.form
  have hB := Box3n.new w (.int .u64 t) (.slice a n n) b (.int .u64 s) (.slice d m m) c 74
  obtain ⟨W0, hW0⟩ : ∃ W0, W0 = ((w.alloc (.cells #[.int .u64 t, .slice a n n, .bool b] 74)).alloc (.cells #[.int .u64 s, .slice d m m, .bool c] 74)) := ⟨_, rfl⟩
  rw [← hW0] at hB
  have ST := Lib.hid hB
  obtain ⟨hsz, _, c00, c01, c02, c10, c11, c12⟩ := hB
  clear hu hv hb hc hcm hsx hsy
  go_enter Tryz.func145, Tryz.ntmps145
  go_wp2_with fail
  rw [← hW0]
  clear hW0
  go_region_held3 (fun W => W.cell? ⟨w.heap.size, 0, none⟩ = some (.int .u64 t) ∧ W.cell? ⟨w.heap.size, 1, none⟩ = some (.slice a n n) ∧ W.cell? ⟨w.heap.size, 2, none⟩ = some (.bool b) ∧ W.cell? ⟨w.heap.size + 1, 0, none⟩ = some (.int .u64 s) ∧ W.cell? ⟨w.heap.size + 1, 1, none⟩ = some (.slice d m m) ∧ W.cell? ⟨w.heap.size + 1, 2, none⟩ = some (.bool c)) (exact ⟨c00, c01, c02, c10, c11, c12⟩) (first | (go_at_call 119; (with_reducible refine Calls.mono (SX.out _ ?hv) ?_); (case hv => first | exact ST.out.below | exact (ST.out.step (below_drew _)).below); rintro e w5 ⟨rfl, hb5⟩; replace hb5 := below_undrew hb5; replace ST := Lib.hid (ST.out.step hb5); clear c00 c01 c02 c10 c11 c12; have c00 := ST.out.p0; have c01 := ST.out.p1; have c02 := ST.out.p2; have c10 := ST.out.q0; have c11 := ST.out.q1; have c12 := ST.out.q2; clear hb5) | (go_at_call 119; (with_reducible refine Calls.mono (SY.out _ ?hv) ?_); (case hv => exact ST.out.below); rintro e w6 ⟨rfl, hb6⟩; replace ST := Lib.hid (ST.out.step hb6); clear c00 c01 c02 c10 c11 c12; have c00 := ST.out.p0; have c01 := ST.out.p1; have c02 := ST.out.p2; have c10 := ST.out.q0; have c11 := ST.out.q1; have c12 := ST.out.q2; clear hb6) | (go_at_call 167; refine (cmpI_any _ _ _).mono ?_; rintro e w7 ⟨rfl, rfl⟩))
  all_goals
    go_wp2
    go_ret
    exact ⟨ret_int HCM.out, ST.out.below⟩
theorem Compare_eq (p v q u : Value) (b : Bool) (x y : Int) (w : World) (hu : NatV w p v x) (hv : NatV w q u y) (z : Int) (hz : (if b = true then cmp3 y x else cmp3 x y) = z) :
    Calls Tryz.prog 145 #[.agg #[p, v, .bool b], .agg #[q, u, .bool b]] w (GivesI z w) := by
  have CX := Lib.hid (fun W (h : Below w.heap.size w W) => compare_any _ _ _ _ x y W (hu.below h) (hv.below h))
  have CY := Lib.hid (fun W (h : Below w.heap.size w W) => compare_any _ _ _ _ y x W (hv.below h) (hu.below h))
  obtain ⟨t, a, n, rfl, rfl, -, -, -, -, -, -⟩ := hu.form
  obtain ⟨s, d, m, rfl, rfl, -, -, -, -, -, -⟩ := hv.form
  cases b
  all_goals (first | rw [if_pos rfl] at hz | rw [if_neg (by decide)] at hz)
  all_goals have HZ := Lib.hid hz
  · obtain ⟨k, hk⟩ : ∃ k, k = cmp3 x y := ⟨_, rfl⟩
    rw [← hk] at CX HZ
    clear hz hk CY
    have hB := Box3n.new w (.int .u64 t) (.slice a n n) false (.int .u64 s) (.slice d m m) false 74
    obtain ⟨W0, hW0⟩ : ∃ W0, W0 = ((w.alloc (.cells #[.int .u64 t, .slice a n n, .bool false] 74)).alloc (.cells #[.int .u64 s, .slice d m m, .bool false] 74)) := ⟨_, rfl⟩
    rw [← hW0] at hB
    have ST := Lib.hid hB
    obtain ⟨hsz, _, c00, c01, c02, c10, c11, c12⟩ := hB
    clear hu hv
    go_enter Tryz.func145, Tryz.ntmps145
    go_wp2_with fail
    rw [← hW0]
    clear hW0
    refine (CX.out _ ST.out.below).mono ?_
    rintro e w1 ⟨rfl, hb1⟩
    replace ST := Lib.hid (ST.out.step hb1)
    clear c00 c01 c02 c10 c11 c12 hb1
    go_wp2
    go_ret
    exact ⟨ret_int HZ.out, ST.out.below⟩
  · obtain ⟨k, hk⟩ : ∃ k, k = cmp3 y x := ⟨_, rfl⟩
    rw [← hk] at CY HZ
    clear hz hk CX
    have hB := Box3n.new w (.int .u64 t) (.slice a n n) true (.int .u64 s) (.slice d m m) true 74
    obtain ⟨W0, hW0⟩ : ∃ W0, W0 = ((w.alloc (.cells #[.int .u64 t, .slice a n n, .bool true] 74)).alloc (.cells #[.int .u64 s, .slice d m m, .bool true] 74)) := ⟨_, rfl⟩
    rw [← hW0] at hB
    have ST := Lib.hid hB
    obtain ⟨hsz, _, c00, c01, c02, c10, c11, c12⟩ := hB
    clear hu hv
    go_enter Tryz.func145, Tryz.ntmps145
    go_wp2_with fail
    rw [← hW0]
    clear hW0
    refine (CY.out _ ST.out.below).mono ?_
    rintro e w1 ⟨rfl, hb1⟩
    replace ST := Lib.hid (ST.out.step hb1)
    clear c00 c01 c02 c10 c11 c12 hb1
    go_wp2
    go_ret
    exact ⟨ret_int HZ.out, ST.out.below⟩
theorem Compare_any (p v q u : Value) (b c : Bool) (x y : Int) (w : World) (hu : NatV w p v x.natAbs) (hv : NatV w q u y.natAbs) (hb : b = decide (x < 0)) (hc : c = decide (y < 0)) :
    Calls Tryz.prog 145 #[.agg #[p, v, .bool b], .agg #[q, u, .bool c]] w (GivesI (cmp3 x y) w) := by
  cases hbc : (b == c)
  · exact Compare_ne p v q u b c hbc x y w hu hv hb hc
  · obtain rfl : b = c := by simpa using hbc
    refine Compare_eq p v q u b _ _ w hu hv _ ?_
    cases b with
    | true =>
      have h1 := of_decide_eq_true hb.symm
      have h2 := of_decide_eq_true hc.symm
      rw [if_pos rfl]
      unfold cmp3
      by_cases h : x < y
      · rw [if_pos h, if_pos (by omega)]
      · rw [if_neg h, if_neg (by omega)]
        by_cases h3 : y < x
        · rw [if_pos h3, if_pos (by omega)]
        · rw [if_neg h3, if_neg (by omega)]
    | false =>
      have h1 := of_decide_eq_false hb.symm
      have h2 := of_decide_eq_false hc.symm
      rw [if_neg (by decide), show (x.natAbs : Int) = x by omega, show (y.natAbs : Int) = y by omega]
end Go.Proofs.YtkhebidmfjbhaaaGreatDoor
namespace Go.Proofs.YtkhebidmfjbhaaaGreatDoor
open Go.RowKit

/-- The box k of the call's own holds two integers. -/
structure Rat6 (w : World) (k : Nat) (p v : Value) (b : Bool) (q u : Value) (c : Bool) : Prop where
  c0 : w.cell? ⟨k, 0, none⟩ = some p
  c1 : w.cell? ⟨k, 1, none⟩ = some v
  c2 : w.cell? ⟨k, 2, none⟩ = some (.bool b)
  c3 : w.cell? ⟨k, 3, none⟩ = some q
  c4 : w.cell? ⟨k, 4, none⟩ = some u
  c5 : w.cell? ⟨k, 5, none⟩ = some (.bool c)
  f0 : w.frozen? ⟨k, 0, none⟩ = false
  f1 : w.frozen? ⟨k, 1, none⟩ = false
  f2 : w.frozen? ⟨k, 2, none⟩ = false
  f3 : w.frozen? ⟨k, 3, none⟩ = false
  f4 : w.frozen? ⟨k, 4, none⟩ = false
  f5 : w.frozen? ⟨k, 5, none⟩ = false
theorem Rat6.lt {w : World} {k : Nat} {p v q u : Value} {b c : Bool} (h : Rat6 w k p v b q u c) : k < w.heap.size := World.block_lt_of_cell? w ⟨k, 0, none⟩ h.c0
theorem Rat6.below {w w' : World} {k : Nat} {p v q u : Value} {b c : Bool} (h : Rat6 w k p v b q u c) (hb : Below w.heap.size w w') : Rat6 w' k p v b q u c :=
  have hk := h.lt
  ⟨(below_at hb 0 hk).trans h.c0, (below_at hb 1 hk).trans h.c1, (below_at hb 2 hk).trans h.c2, (below_at hb 3 hk).trans h.c3, (below_at hb 4 hk).trans h.c4, (below_at hb 5 hk).trans h.c5, (below_atF hb 0 hk).trans h.f0, (below_atF hb 1 hk).trans h.f1, (below_atF hb 2 hk).trans h.f2, (below_atF hb 3 hk).trans h.f3, (below_atF hb 4 hk).trans h.f4, (below_atF hb 5 hk).trans h.f5⟩
theorem Rat6.new (w : World) (p v : Value) (b : Bool) (q u : Value) (c : Bool) (t : TypeId) (r : Nat) (hr : r = w.heap.size) : Rat6 (w.alloc (.cells #[p, v, .bool b, q, u, .bool c] t)) r p v b q u c := by
  refine ⟨?_, ?_, ?_, ?_, ?_, ?_, ?_, ?_, ?_, ?_, ?_, ?_⟩ <;> first | (rw [World.frozen?_alloc_at _ _ _ _ hr]) | (rw [World.cell?_alloc_at _ _ _ _ hr]; rfl)
theorem Num3.lt {w : World} {k : Nat} {p v : Value} {b : Bool} (h : Num3 w k p v b) : k < w.heap.size := World.block_lt_of_cell? w ⟨k, 0, none⟩ h.c0
theorem Num3.go {w w' : World} {k : Nat} {p v : Value} {b : Bool} (h : Num3 w k p v b) (hb : Below w.heap.size w w') : Num3 w' k p v b := h.below hb h.lt
theorem Num3.new (w : World) (p v : Value) (b : Bool) (t : TypeId) (r : Nat) (hr : r = w.heap.size) : Num3 (w.alloc (.cells #[p, v, .bool b] t)) r p v b := by
  refine ⟨?_, ?_, ?_, ?_, ?_, ?_⟩ <;> first | (rw [World.frozen?_alloc_at _ _ _ _ hr]) | (rw [World.cell?_alloc_at _ _ _ _ hr]; rfl)
/-- Six stores. -/
def wr6 (w : World) (k : Nat) (p v : Value) (b : Bool) (q u : Value) (c : Bool) : World :=
  (((((w.setCell ⟨k, 0, none⟩ p).setCell ⟨k, 1, none⟩ v).setCell ⟨k, 2, none⟩ (.bool b)).setCell ⟨k, 3, none⟩ q).setCell ⟨k, 4, none⟩ u).setCell ⟨k, 5, none⟩ (.bool c)
theorem wr6_frozen (w : World) (k : Nat) (p v : Value) (b : Bool) (q u : Value) (c : Bool) (a : Addr) : (wr6 w k p v b q u c).frozen? a = w.frozen? a := by unfold wr6; simp only [World.frozen?_setCell]
theorem wr6_far {w : World} {r k o : Nat} {p v q u : Value} {b c : Bool} (h : k ≠ r) : (wr6 w r p v b q u c).cell? ⟨k, o, none⟩ = w.cell? ⟨k, o, none⟩ := by
  unfold wr6
  rw [World.cell?_setCell_other _ _ _ _ (by intro e; injection e; omega), World.cell?_setCell_other _ _ _ _ (by intro e; injection e; omega), World.cell?_setCell_other _ _ _ _ (by intro e; injection e; omega), World.cell?_setCell_other _ _ _ _ (by intro e; injection e; omega), World.cell?_setCell_other _ _ _ _ (by intro e; injection e; omega), World.cell?_setCell_other _ _ _ _ (by intro e; injection e; omega)]
theorem wr6_below {w W : World} {B k : Nat} {p v q u : Value} {b c : Bool} (h : Below B w W) (hk : B ≤ k) : Below B w (wr6 W k p v b q u c) :=
  below_set (below_set (below_set (below_set (below_set (below_set h 0 hk _) 1 hk _) 2 hk _) 3 hk _) 4 hk _) 5 hk _
theorem Rat6.far {w : World} {r k : Nat} {p v q u p' v' q' u' : Value} {b c b' c' : Bool} (h : Rat6 w k p v b q u c) (hk : k ≠ r) : Rat6 (wr6 w r p' v' b' q' u' c') k p v b q u c :=
  ⟨(wr6_far hk).trans h.c0, (wr6_far hk).trans h.c1, (wr6_far hk).trans h.c2, (wr6_far hk).trans h.c3, (wr6_far hk).trans h.c4, (wr6_far hk).trans h.c5, (wr6_frozen ..).trans h.f0, (wr6_frozen ..).trans h.f1, (wr6_frozen ..).trans h.f2, (wr6_frozen ..).trans h.f3, (wr6_frozen ..).trans h.f4, (wr6_frozen ..).trans h.f5⟩
theorem Rat6.far3 {w : World} {r k : Nat} {p v q u p' v' : Value} {b c b' : Bool} (h : Rat6 w k p v b q u c) (hk : k ≠ r) : Rat6 (wr3 w r p' v' b') k p v b q u c :=
  ⟨(wr3_far hk).trans h.c0, (wr3_far hk).trans h.c1, (wr3_far hk).trans h.c2, (wr3_far hk).trans h.c3, (wr3_far hk).trans h.c4, (wr3_far hk).trans h.c5, (wr3_frozen ..).trans h.f0, (wr3_frozen ..).trans h.f1, (wr3_frozen ..).trans h.f2, (wr3_frozen ..).trans h.f3, (wr3_frozen ..).trans h.f4, (wr3_frozen ..).trans h.f5⟩
theorem Num3.far6 {w : World} {r k : Nat} {p v p' v' q' u' : Value} {b b' c' : Bool} (h : Num3 w k p v b) (hk : k ≠ r) : Num3 (wr6 w r p' v' b' q' u' c') k p v b :=
  ⟨(wr6_far hk).trans h.c0, (wr6_far hk).trans h.c1, (wr6_far hk).trans h.c2, (wr6_frozen ..).trans h.f0, (wr6_frozen ..).trans h.f1, (wr6_frozen ..).trans h.f2⟩
theorem cell_put {w : World} {k o : Nat} {u v : Value} (h : w.cell? ⟨k, o, none⟩ = some u) : (w.setCell ⟨k, o, none⟩ v).cell? ⟨k, o, none⟩ = some v := World.cell?_setCell_same _ _ _ h
theorem cell_pass {w : World} {k o o' : Nat} {u v : Value} (h : w.cell? ⟨k, o, none⟩ = some u) (hk : o ≠ o') : (w.setCell ⟨k, o', none⟩ v).cell? ⟨k, o, none⟩ = some u := by
  rw [World.cell?_setCell_other _ _ _ _ (by intro e; injection e; omega)]; exact h
theorem Rat6.put {w : World} {k : Nat} {p v q u p' v' q' u' : Value} {b c b' c' : Bool} (h : Rat6 w k p v b q u c) : Rat6 (wr6 w k p' v' b' q' u' c') k p' v' b' q' u' c' := by
  obtain ⟨h0, h1, h2, h3, h4, h5, g0, g1, g2, g3, g4, g5⟩ := h
  refine ⟨?_, ?_, ?_, ?_, ?_, ?_, (wr6_frozen ..).trans g0, (wr6_frozen ..).trans g1, (wr6_frozen ..).trans g2, (wr6_frozen ..).trans g3, (wr6_frozen ..).trans g4, (wr6_frozen ..).trans g5⟩ <;> unfold wr6
  · exact cell_pass (cell_pass (cell_pass (cell_pass (cell_pass (cell_put h0) (by decide)) (by decide)) (by decide)) (by decide)) (by decide)
  · exact cell_pass (cell_pass (cell_pass (cell_pass (cell_put (cell_pass h1 (by decide))) (by decide)) (by decide)) (by decide)) (by decide)
  · exact cell_pass (cell_pass (cell_pass (cell_put (cell_pass (cell_pass h2 (by decide)) (by decide))) (by decide)) (by decide)) (by decide)
  · exact cell_pass (cell_pass (cell_put (cell_pass (cell_pass (cell_pass h3 (by decide)) (by decide)) (by decide))) (by decide)) (by decide)
  · exact cell_pass (cell_put (cell_pass (cell_pass (cell_pass (cell_pass h4 (by decide)) (by decide)) (by decide)) (by decide))) (by decide)
  · exact cell_put (cell_pass (cell_pass (cell_pass (cell_pass (cell_pass h5 (by decide)) (by decide)) (by decide)) (by decide)) (by decide))
/-- Numbers go on where two integers are written over. -/
theorem NatV.through6 {w : World} {P V p v q u p' v' q' u' : Value} {z x y : Int} {k : Nat} {b c b' c' : Bool} (h : NatV w P V z) (hr : Rat6 w k p v b q u c) (h1 : NatV w p v x) (h2 : NatV w q u y) : NatV (wr6 w k p' v' b' q' u' c') P V z := by
  obtain ⟨t1, a1, n1, rfl, rfl, _, _, _, _, _, _⟩ := h1.form
  obtain ⟨t2, a2, n2, rfl, rfl, _, _, _, _, _, _⟩ := h2.form
  obtain ⟨h0, h1, h2, h3, h4, h5, _, _, _, _, _, _⟩ := hr
  unfold wr6
  have e1 := (h.put3 h1 h2 p' v' (.bool b'))
  have e4 : (((w.setCell ⟨k, 0, none⟩ p').setCell ⟨k, 1, none⟩ v').setCell ⟨k, 2, none⟩ (.bool b')).cell? ⟨k, 4, none⟩ = some (.slice a2 n2 n2) := cell_pass (cell_pass (cell_pass h4 (by decide)) (by decide)) (by decide)
  have e2 : (((w.setCell ⟨k, 0, none⟩ p').setCell ⟨k, 1, none⟩ v').setCell ⟨k, 2, none⟩ (.bool b')).cell? ⟨k, 2, none⟩ = some (.bool b') := cell_put (cell_pass (cell_pass h2 (by decide)) (by decide))
  have e5 : (((w.setCell ⟨k, 0, none⟩ p').setCell ⟨k, 1, none⟩ v').setCell ⟨k, 2, none⟩ (.bool b')).cell? ⟨k, 5, none⟩ = some (.bool c) := cell_pass (cell_pass (cell_pass h5 (by decide)) (by decide)) (by decide)
  have s1 := e1.store00 (r := k) (k := 3) e4 (fun _ e => by cases e) (.inr ⟨_, e2, fun _ e => by cases e⟩) q'
  have s2 := s1.store (q := ⟨k, 4, none⟩) (u0 := .slice a2 n2 n2) (cell_pass e4 (by decide)) (fun _ e => by cases e) u'
  exact s2.store (q := ⟨k, 5, none⟩) (u0 := .bool c) (cell_pass (cell_pass e5 (by decide)) (by decide)) (fun _ e => by cases e) (.bool c')

/-- The call hands back the numerator n and the denominator d. -/
def GivesR (n d : Int) (w : World) (e : Ending) (w' : World) : Prop := ∃ p v q u, e = .returned (.agg #[p, v, .bool (decide (n < 0)), q, u, .bool (decide (d < 0))]) ∧ NatV w' p v n.natAbs ∧ NatV w' q u d.natAbs ∧ Below w.heap.size w w'
/-- The values of a rational number n / d. -/
structure RatV (w : World) (p v : Value) (b : Bool) (q u : Value) (c : Bool) (n d : Int) : Prop where
  nn : NatV w p v n.natAbs
  hb : b = decide (n < 0)
  nd : NatV w q u d.natAbs
  hc : c = decide (d < 0)
/-- The result is written into its box. -/
theorem giveR {w W : World} {r : Nat} {p v q u : Value} {b c : Bool} {n d : Int} (hb : Below w.heap.size w W) (hr : w.heap.size ≤ r) (h : Rat6 W r (.int .u64 0) (.slice none 0 0) false (.int .u64 0) (.slice none 0 0) false) (hv : RatV W p v b q u c n d) :
    GivesR n d w (.returned (.agg #[p, v, .bool b, q, u, .bool c])) (wr6 W r p v b q u c) :=
  ⟨p, v, q, u, by rw [hv.hb, hv.hc], hv.nn.through6 h (NatV.zero _) (NatV.zero _), hv.nd.through6 h (NatV.zero _) (NatV.zero _), wr6_below hb hr⟩
end Go.Proofs.YtkhebidmfjbhaaaGreatDoor
