/-
  What collapse returns.
-/
import Derived.Test.YtkhebidmfjbhaaaGreatDoorZ33
import Derived.Deep.RegionHeld3
import Derived.Deep.Cut
import Derived.BigQuiet
namespace Go.Proofs.YtkhebidmfjbhaaaGreatDoor
open Go.RowKit

/-- A new box of two integers. -/
theorem St.freshR {w W : World} {R : List (Nat × Value × Value × Bool × Value × Value × Bool)} {Z : List (Nat × Value × Value × Bool)} {N : List (Value × Value × Bool × Int)} {k : Nat} (h : St w W ((k, .int .u64 0, .slice none 0 0, false, .int .u64 0, .slice none 0 0, false) :: R) Z N) : (W.cell? ⟨k, 0, none⟩ = some (.int .u64 0) ∧ W.cell? ⟨k, 1, none⟩ = some (.slice none 0 0) ∧ W.cell? ⟨k, 2, none⟩ = some (.bool false) ∧ W.cell? ⟨k, 3, none⟩ = some (.int .u64 0) ∧ W.cell? ⟨k, 4, none⟩ = some (.slice none 0 0) ∧ W.cell? ⟨k, 5, none⟩ = some (.bool false) ∧ W.frozen? ⟨k, 0, none⟩ = false ∧ W.frozen? ⟨k, 1, none⟩ = false ∧ W.frozen? ⟨k, 2, none⟩ = false ∧ W.frozen? ⟨k, 3, none⟩ = false ∧ W.frozen? ⟨k, 4, none⟩ = false ∧ W.frozen? ⟨k, 5, none⟩ = false) ∧ k ≠ W.heap.size ∧ W.heap.size ≠ k ∧ k < W.heap.size :=
  have e := h.rats _ mem0
  ⟨⟨e.c0, e.c1, e.c2, e.c3, e.c4, e.c5, e.f0, e.f1, e.f2, e.f3, e.f4, e.f5⟩, Nat.ne_of_lt e.lt, Nat.ne_of_gt e.lt, e.lt⟩
/-- A box of two integers is written over. -/
theorem St.overR {w W : World} {R : List (Nat × Value × Value × Bool × Value × Value × Bool)} {Z : List (Nat × Value × Value × Bool)} {N : List (Value × Value × Bool × Int)} {k : Nat} {p0 v0 q0 u0 : Value} {b0 c0 : Bool} {x y : Int} (p v : Value) (b : Bool) (q u : Value) (c : Bool) (h : St w W ((k, p0, v0, b0, q0, u0, c0) :: R) Z N) (hx : IntV W p0 v0 b0 x) (hy : IntV W q0 u0 c0 y) :
    St w ((((((W.setCell ⟨k, 0, none⟩ p).setCell ⟨k, 1, none⟩ v).setCell ⟨k, 2, none⟩ (.bool b)).setCell ⟨k, 3, none⟩ q).setCell ⟨k, 4, none⟩ u).setCell ⟨k, 5, none⟩ (.bool c)) ((k, p, v, b, q, u, c) :: R) Z N := by
  have hk := h.rats _ List.mem_cons_self
  have hd := List.pairwise_cons.mp h.distR
  refine ⟨wr6_below h.below (h.ownR _ List.mem_cons_self), ?_, ?_, fun e he => ⟨(h.nats e he).1.through6 hk hx.1 hy.1, (h.nats e he).2⟩, h.own, h.dist, ?_, ?_, ?_⟩
  · intro e he
    rcases List.mem_cons.mp he with rfl | he
    · exact hk.put
    · exact (h.rats e (List.mem_cons_of_mem _ he)).far (hd.1 e he).symm
  · intro e he
    exact (h.nums e he).far6 (h.apart _ List.mem_cons_self e he).symm
  · intro e he d hx
    rcases List.mem_cons.mp he with rfl | he
    · exact h.apart (k, p0, v0, b0, q0, u0, c0) List.mem_cons_self d hx
    · exact h.apart e (List.mem_cons_of_mem _ he) d hx
  · exact List.pairwise_cons.mpr ⟨fun e he => hd.1 e he, hd.2⟩
  · intro e he
    rcases List.mem_cons.mp he with rfl | he
    · exact h.ownR (k, p0, v0, b0, q0, u0, c0) List.mem_cons_self
    · exact h.ownR e (List.mem_cons_of_mem _ he)
/-- The loop of collapse: the state s lies in the boxes k and k + 1. -/
def Cl (w wr : World) (k : Nat) (s : Int × Int × Int × Int) : Prop := ∃ p3 v3 b3 q3 u3 c3 p4 v4 b4 q4 u4 c4, St w wr [(k + 1, p4, v4, b4, q4, u4, c4), (k, p3, v3, b3, q3, u3, c3), (w.heap.size, .int .u64 0, .slice none 0 0, false, .int .u64 0, .slice none 0 0, false)] [] [(p3, v3, b3, s.1), (q3, u3, c3, s.2.1), (p4, v4, b4, s.2.2.1), (q4, u4, c4, s.2.2.2)]
set_option maxHeartbeats 4000000 in
set_option maxRecDepth 100000 in
theorem collapse_any (v : Value) (l : List Int) (w : World) (hv : NumL w v l) (hp : ∀ c, c ∈ l.tail → 1 ≤ c) (hd : ∀ c, c ∈ l → dn c ≤ 1000) (hlen : l.length ≤ 1000000000000) : Calls Tryz.prog 120 #[v] w (GivesR (cbr (1, 0, 0, 1) l).1 (cbr (1, 0, 0, 1) l).2.1 w) := by
  obtain ⟨a, cp, rfl, hcp, -⟩ := id hv
  have HV := Lib.hid hv
  have CS0 := Lib.hid (Cs.start l)
  have HP := Lib.hid hp
  have HD := Lib.hid hd
  clear hv hp hd
  go_enter Tryz.func120, Tryz.ntmps120
  go_wp2_with fail
  obtain ⟨W0, hW0⟩ : ∃ W0, W0 = (w.alloc (.cells #[.int .u64 0, .slice none 0 0, .bool false, .int .u64 0, .slice none 0 0, .bool false] 76)) := ⟨_, rfl⟩
  have ST : St w W0 [(w.heap.size, .int .u64 0, .slice none 0 0, false, .int .u64 0, .slice none 0 0, false)] [] [] := by
    rw [hW0]
    exact (St.zero).allocR (k := w.heap.size) (t := 76) (by first | rfl | (simp; done) | (simp; omega))
  replace ST := Lib.hid ST
  rw [← hW0]
  clear hW0
  go_wp2_with fail
  refine St.arm (w := w) (by exact ST.out) (by intro H; exact OfZ_any 1 _ (by decide) (by decide)) ?_
  rintro e w1 ⟨⟨p1, v1, rfl, hv1, hb1⟩, H⟩
  obtain ⟨r1s, hs1⟩ : ∃ sgn, sgn = decide ((1 : Int) < 0) := ⟨_, rfl⟩
  rw [← hs1]
  have hi := And.intro hv1 hs1
  obtain ⟨r1t, r1a, r1n, rfl, rfl, -, -, -, -, -, -⟩ := hv1.form
  replace ST := Lib.hid ((H.call hb1).know hi)
  clear hi H hv1 hb1 hs1
  go_wp2_with fail
  refine St.arm (w := w) (by exact ST.out) (by intro H; exact OfZ_any 1 _ (by decide) (by decide)) ?_
  rintro e w2 ⟨⟨p2, v2, rfl, hv2, hb2⟩, H⟩
  obtain ⟨r2s, hs2⟩ : ∃ sgn, sgn = decide ((1 : Int) < 0) := ⟨_, rfl⟩
  rw [← hs2]
  have hi := And.intro hv2 hs2
  obtain ⟨r2t, r2a, r2n, rfl, rfl, -, -, -, -, -, -⟩ := hv2.form
  replace ST := Lib.hid ((H.call hb2).know hi)
  clear hi H hv2 hb2 hs2
  go_upto_region 2 with fail
  obtain ⟨W2, hW⟩ : ∃ W, W = (w2.alloc (.cells #[.int .u64 r1t, .slice r1a r1n r1n, .bool r1s, .int .u64 0, .slice none 0 0, .bool false] 76)).alloc (.cells #[.int .u64 0, .slice none 0 0, .bool false, .int .u64 r2t, .slice r2a r2n r2n, .bool r2s] 76) := ⟨_, rfl⟩
  rw [← hW]
  replace ST := (ST.out.allocV (.int .u64 r1t) (.slice r1a r1n r1n) r1s (.int .u64 0) (.slice none 0 0) false 76 w2.heap.size rfl).allocV (.int .u64 0) (.slice none 0 0) false (.int .u64 r2t) (.slice r2a r2n r2n) r2s 76 (w2.heap.size + 1) (by first | rfl | (simp; done) | (simp; omega))
  rw [← hW] at ST
  clear hW
  replace ST := Lib.hid ST
  obtain ⟨k3, hk⟩ : ∃ k, k = w2.heap.size := ⟨_, rfl⟩
  rw [← hk] at ST ⊢
  clear hk
  replace ST := Lib.hid (ST.out.know (p := .int .u64 0) (v := .slice none 0 0) (b := false) (x := 0) ⟨NatV.zero _, by decide⟩)
  have CL := Lib.hid (show Cl w W2 k3 (1, 0, 0, 1) from ⟨_, _, _, _, _, _, _, _, _, _, _, _, ((((ST.out.bare.pick ST.out (by with_reducible ((repeat ((fail_if_success exact mem0); apply List.mem_cons_of_mem)); exact mem0))).pick ST.out (by with_reducible ((repeat ((fail_if_success exact mem0); apply List.mem_cons_of_mem)); exact mem0))).pick ST.out (by with_reducible ((repeat ((fail_if_success exact mem0); apply List.mem_cons_of_mem)); exact mem0))).pick ST.out (by with_reducible ((repeat ((fail_if_success exact mem0); apply List.mem_cons_of_mem)); exact mem0)))⟩)
  clear ST
  go_wp2_with fail
  go_loopw [14] (fun i wr => ∃ (k : Nat) (s : Int × Int × Int × Int), i = .int .i64 k ∧ k ≤ l.length ∧ Cl w wr k3 s ∧ Cs l k s) (fun i _ => l.length - (intOf i).toNat)
  case atStart => exact ⟨0, _, rfl, by omega, CL.out, CS0.out⟩
  case round =>
    clear CL CS0
    obtain ⟨k, s, rfl, hk, hcl, hcs⟩ := hrel
    obtain ⟨un, ud, vn, vd⟩ := s
    have CS := Lib.hid hcs
    clear hcs
    obtain ⟨p3, v3, b3, q3, u3, c3, p4, v4, b4, q4, u4, c4, ST⟩ := hcl
    have hx := ST.int (p := p3) (v := v3) (b := b3) (x := un) (by with_reducible ((repeat ((fail_if_success exact mem0); apply List.mem_cons_of_mem)); exact mem0))
    obtain ⟨xt, xa, xn, rfl, rfl, -, -, -, -, -, -⟩ := hx.1.form
    obtain ⟨xs, hxs⟩ : ∃ s, s = b3 := ⟨_, rfl⟩
    subst hxs
    clear hx
    have hy := ST.int (p := q3) (v := u3) (b := c3) (x := ud) (by with_reducible ((repeat ((fail_if_success exact mem0); apply List.mem_cons_of_mem)); exact mem0))
    obtain ⟨yt, ya, yn, rfl, rfl, -, -, -, -, -, -⟩ := hy.1.form
    obtain ⟨ys, hys⟩ : ∃ s, s = c3 := ⟨_, rfl⟩
    subst hys
    clear hy
    have hz := ST.int (p := p4) (v := v4) (b := b4) (x := vn) (by with_reducible ((repeat ((fail_if_success exact mem0); apply List.mem_cons_of_mem)); exact mem0))
    obtain ⟨zt, za, zn, rfl, rfl, -, -, -, -, -, -⟩ := hz.1.form
    obtain ⟨zs, hzs⟩ : ∃ s, s = b4 := ⟨_, rfl⟩
    subst hzs
    clear hz
    have hr := ST.int (p := q4) (v := u4) (b := c4) (x := vd) (by with_reducible ((repeat ((fail_if_success exact mem0); apply List.mem_cons_of_mem)); exact mem0))
    obtain ⟨rt, ra, rn, rfl, rfl, -, -, -, -, -, -⟩ := hr.1.form
    obtain ⟨rs, hrs⟩ : ∃ s, s = c4 := ⟨_, rfl⟩
    subst hrs
    clear hr
    have ST := Lib.hid ST
    by_cases hlt : k < l.length
    · have hV := HV.out.below ST.out.below
      obtain ⟨a1, cp1, hv1, -, hr1⟩ := hV
      injection hv1 with ha1 hn1 hc1
      subst ha1
      obtain ⟨g, o, rfl, hg, hcl⟩ := hr1 (by omega)
      obtain ⟨pe, ve, be, e0, e1, e2, hI⟩ := hcl k hlt
      obtain ⟨C, hC⟩ : ∃ C : Int, C = l[k] := ⟨_, rfl⟩
      rw [← hC] at hI
      have CN := CS.out.next hlt HP.out HD.out
      rw [← hC] at CN
      obtain ⟨et, ea, en, rfl, rfl, -, -, -, -, -, -⟩ := hI.1.form
      obtain ⟨es, hes⟩ : ∃ s, s = be := ⟨_, rfl⟩
      subst hes
      replace ST := Lib.hid (ST.out.know hI)
      clear hcl hr1 hn1 hc1
      have CNH := Lib.hid CN
      clear CN
      have hkl : (k : Int) < (l.length : Int) := by omega
      go_upto_region 5 with fail
      obtain ⟨W6, hW⟩ : ∃ W6, W6 = wr.alloc (.cells #[.int .u64 et, .slice ea en en, .bool es] 74) := ⟨_, rfl⟩
      rw [← hW]
      replace ST := ST.out.allocN (.int .u64 et) (.slice ea en en) es 74 wr.heap.size rfl
      rw [← hW] at ST
      clear hW
      replace ST := Lib.hid ST
      obtain ⟨k6, hk6⟩ : ∃ k, k = wr.heap.size := ⟨_, rfl⟩
      rw [← hk6] at ST ⊢
      clear hk6
      obtain ⟨sx1, sx2, sx3, sx4⟩ : dn un ≤ 3000 ∧ dn ud ≤ 1000 ∧ dn vn ≤ 3000 ∧ dn vd ≤ 1000 := CS.out.small
      have hCd := HD.out C (by rw [hC]; exact List.getElem_mem hlt)
      obtain ⟨m1, hm1⟩ : ∃ m, C * un = m := ⟨_, rfl⟩
      obtain ⟨n1, hn1⟩ : ∃ m, m1 + vn = m := ⟨_, rfl⟩
      obtain ⟨m2, hm2⟩ : ∃ m, C * ud = m := ⟨_, rfl⟩
      obtain ⟨n2, hn2⟩ : ∃ m, m2 + vd = m := ⟨_, rfl⟩
      have dm1 : dn m1 ≤ 4000 := by rw [← hm1]; exact dn_times (j := 1000) (k := 3000) hCd sx1 (by omega)
      have dm2 : dn m2 ≤ 2000 := by rw [← hm2]; exact dn_times (j := 1000) (k := 1000) hCd sx2 (by omega)
      have dn2 : dn n2 ≤ 2001 := by rw [← hn2]; exact dn_plus dm2 (Nat.le_trans sx4 (by omega))
      have M1 := Op2.times hm1 (Nat.le_trans (nl_of_dn (k := 4000) (by omega)) (by omega)) (Nat.le_trans (nl_of_dn (k := 4000) (Nat.le_trans sx1 (by omega))) (by omega))
      have A1 := Op2.plus hn1 (Nat.le_trans (nl_of_dn (k := 4000) (Nat.le_trans dm1 (by omega))) (by omega)) (Nat.le_trans (nl_of_dn (k := 4000) (Nat.le_trans sx3 (by omega))) (by omega))
      have M2 := Op2.times hm2 (Nat.le_trans (nl_of_dn (k := 4000) (by omega)) (by omega)) (Nat.le_trans (nl_of_dn (k := 4000) (Nat.le_trans sx2 (by omega))) (by omega))
      have A2 := Op2.plus hn2 (Nat.le_trans (nl_of_dn (k := 4000) (Nat.le_trans dm2 (by omega))) (by omega)) (Nat.le_trans (nl_of_dn (k := 4000) (Nat.le_trans sx4 (by omega))) (by omega))
      have hst : cstep (un, ud, vn, vd) C = (n1, n2, un, ud) := by simp only [cstep]; rw [hm1, hn1, hm2, hn2]
      rw [hst] at CNH
      have HDN2 := Lib.hid dn2
      have HC := Lib.hid hC
      clear sx1 sx2 sx3 sx4 hCd dm1 dm2 hm1 hn1 hm2 hn2 hst dn2 hC e0 e1 e2
      go_cut [7] from 18 to 40 (fun x7 W => ∃ k7 mt ma mn ms nt na nn ns, x7 = .pointer (some ⟨k7, 0, none⟩) ∧ St w W [(k7, .int .u64 mt, .slice ma mn mn, ms, .int .u64 nt, .slice na nn nn, ns), (k3 + 1, .int .u64 zt, .slice za zn zn, zs, .int .u64 rt, .slice ra rn rn, rs), (k3, .int .u64 xt, .slice xa xn xn, xs, .int .u64 yt, .slice ya yn yn, ys), (w.heap.size, .int .u64 0, .slice none 0 0, false, .int .u64 0, .slice none 0 0, false)] [] [(.int .u64 mt, .slice ma mn mn, ms, n1), (.int .u64 nt, .slice na nn nn, ns, n2), (.int .u64 et, .slice ea en en, es, C), (.int .u64 xt, .slice xa xn xn, xs, un), (.int .u64 yt, .slice ya yn yn, ys, ud), (.int .u64 zt, .slice za zn zn, zs, vn), (.int .u64 rt, .slice ra rn rn, rs, vd)])
      case first =>
        go_region_held3 (fun W => (W.cell? ⟨k6, 0, none⟩ = some (.int .u64 et) ∧ W.cell? ⟨k6, 1, none⟩ = some (.slice ea en en) ∧ W.cell? ⟨k6, 2, none⟩ = some (.bool es)) ∧ (W.cell? ⟨k3, 0, none⟩ = some (.int .u64 xt) ∧ W.cell? ⟨k3, 1, none⟩ = some (.slice xa xn xn) ∧ W.cell? ⟨k3, 2, none⟩ = some (.bool xs) ∧ W.cell? ⟨k3, 3, none⟩ = some (.int .u64 yt) ∧ W.cell? ⟨k3, 4, none⟩ = some (.slice ya yn yn) ∧ W.cell? ⟨k3, 5, none⟩ = some (.bool ys)) ∧ (W.cell? ⟨k3 + 1, 0, none⟩ = some (.int .u64 zt) ∧ W.cell? ⟨k3 + 1, 1, none⟩ = some (.slice za zn zn) ∧ W.cell? ⟨k3 + 1, 2, none⟩ = some (.bool zs) ∧ W.cell? ⟨k3 + 1, 3, none⟩ = some (.int .u64 rt) ∧ W.cell? ⟨k3 + 1, 4, none⟩ = some (.slice ra rn rn) ∧ W.cell? ⟨k3 + 1, 5, none⟩ = some (.bool rs))) (exact ⟨St.num (w := w) (by ((with_reducible iterate 4 try first | apply St.drew | apply St.alloc | apply St.allocR | apply St.putR); ((with_reducible exact ST.out); all_goals (first | rfl | (simp; done) | (simp; omega))))) (by with_reducible ((repeat ((fail_if_success exact mem0); apply List.mem_cons_of_mem)); exact mem0)), St.rat (w := w) (by ((with_reducible iterate 4 try first | apply St.drew | apply St.alloc | apply St.allocR | apply St.putR); ((with_reducible exact ST.out); all_goals (first | rfl | (simp; done) | (simp; omega))))) (by with_reducible ((repeat ((fail_if_success exact mem0); apply List.mem_cons_of_mem)); exact mem0)), St.rat (w := w) (by ((with_reducible iterate 4 try first | apply St.drew | apply St.alloc | apply St.allocR | apply St.putR); ((with_reducible exact ST.out); all_goals (first | rfl | (simp; done) | (simp; omega))))) (by with_reducible ((repeat ((fail_if_success exact mem0); apply List.mem_cons_of_mem)); exact mem0))⟩) (first | (go_at_call 134; refine St.arm (w := w) (by ((with_reducible iterate 4 try first | apply St.drew | apply St.alloc | apply St.allocR | apply St.putR); ((with_reducible exact ST.out); all_goals (first | rfl | (simp; done) | (simp; omega))))) (by intro H; with_reducible exact Op2.run M1 (H.int (by with_reducible ((repeat ((fail_if_success exact mem0); apply List.mem_cons_of_mem)); exact mem0))) (H.int (by with_reducible ((repeat ((fail_if_success exact mem0); apply List.mem_cons_of_mem)); exact mem0)))) ?_; rintro e w21 ⟨⟨p21, v21, rfl, hv21, hb21⟩, H⟩; obtain ⟨r21s, hs21⟩ : ∃ sgn, sgn = decide (m1 < 0) := ⟨_, rfl⟩; rw [← hs21]; have hi := And.intro hv21 hs21; obtain ⟨r21t, r21a, r21n, rfl, rfl, -, -, -, -, -, -⟩ := hv21.form; replace ST := Lib.hid ((H.call hb21).know hi); clear hi H hv21 hb21 hs21; (first | clear y0 y1 y2 y3 y4 y5 y6 y7 y8 y9 y10 y11 y12 y13 y14 | skip); (first | (with_reducible have ⟨⟨y0, y1, y2, y3, y4, y5, y6, y7, y8, y9, y10, y11⟩, y12, y13, y14⟩ := St.freshR ST.out) | skip)) | (go_at_call 148; refine St.arm (w := w) (by ((with_reducible iterate 4 try first | apply St.drew | apply St.alloc | apply St.allocR | apply St.putR); ((with_reducible exact ST.out); all_goals (first | rfl | (simp; done) | (simp; omega))))) (by intro H; with_reducible exact Op2.run A1 (H.int (by with_reducible ((repeat ((fail_if_success exact mem0); apply List.mem_cons_of_mem)); exact mem0))) (H.int (by with_reducible ((repeat ((fail_if_success exact mem0); apply List.mem_cons_of_mem)); exact mem0)))) ?_; rintro e w24 ⟨⟨p24, v24, rfl, hv24, hb24⟩, H⟩; obtain ⟨r24s, hs24⟩ : ∃ sgn, sgn = decide (n1 < 0) := ⟨_, rfl⟩; rw [← hs24]; have hi := And.intro hv24 hs24; obtain ⟨r24t, r24a, r24n, rfl, rfl, -, -, -, -, -, -⟩ := hv24.form; replace ST := Lib.hid ((H.call hb24).know hi); clear hi H hv24 hb24 hs24; (first | clear y0 y1 y2 y3 y4 y5 y6 y7 y8 y9 y10 y11 y12 y13 y14 | skip); (first | (with_reducible have ⟨⟨y0, y1, y2, y3, y4, y5, y6, y7, y8, y9, y10, y11⟩, y12, y13, y14⟩ := St.freshR ST.out) | skip)) | (go_at_call 134; refine St.arm (w := w) (by ((with_reducible iterate 4 try first | apply St.drew | apply St.alloc | apply St.allocR | apply St.putR); ((with_reducible exact ST.out); all_goals (first | rfl | (simp; done) | (simp; omega))))) (by intro H; with_reducible exact Op2.run M2 (H.int (by with_reducible ((repeat ((fail_if_success exact mem0); apply List.mem_cons_of_mem)); exact mem0))) (H.int (by with_reducible ((repeat ((fail_if_success exact mem0); apply List.mem_cons_of_mem)); exact mem0)))) ?_; rintro e w28 ⟨⟨p28, v28, rfl, hv28, hb28⟩, H⟩; obtain ⟨r28s, hs28⟩ : ∃ sgn, sgn = decide (m2 < 0) := ⟨_, rfl⟩; rw [← hs28]; have hi := And.intro hv28 hs28; obtain ⟨r28t, r28a, r28n, rfl, rfl, -, -, -, -, -, -⟩ := hv28.form; replace ST := Lib.hid ((H.call hb28).know hi); clear hi H hv28 hb28 hs28; (first | clear y0 y1 y2 y3 y4 y5 y6 y7 y8 y9 y10 y11 y12 y13 y14 | skip); (first | (with_reducible have ⟨⟨y0, y1, y2, y3, y4, y5, y6, y7, y8, y9, y10, y11⟩, y12, y13, y14⟩ := St.freshR ST.out) | skip)) | (go_at_call 148; refine St.arm (w := w) (by ((with_reducible iterate 4 try first | apply St.drew | apply St.alloc | apply St.allocR | apply St.putR); ((with_reducible exact ST.out); all_goals (first | rfl | (simp; done) | (simp; omega))))) (by intro H; with_reducible exact Op2.run A2 (H.int (by with_reducible ((repeat ((fail_if_success exact mem0); apply List.mem_cons_of_mem)); exact mem0))) (H.int (by with_reducible ((repeat ((fail_if_success exact mem0); apply List.mem_cons_of_mem)); exact mem0)))) ?_; rintro e w31 ⟨⟨p31, v31, rfl, hv31, hb31⟩, H⟩; obtain ⟨r31s, hs31⟩ : ∃ sgn, sgn = decide (n2 < 0) := ⟨_, rfl⟩; rw [← hs31]; have hi := And.intro hv31 hs31; obtain ⟨r31t, r31a, r31n, rfl, rfl, -, -, -, -, -, -⟩ := hv31.form; replace ST := Lib.hid ((H.call hb31).know hi); clear hi H hv31 hb31 hs31; (first | clear y0 y1 y2 y3 y4 y5 y6 y7 y8 y9 y10 y11 y12 y13 y14 | skip); (first | (with_reducible have ⟨⟨y0, y1, y2, y3, y4, y5, y6, y7, y8, y9, y10, y11⟩, y12, y13, y14⟩ := St.freshR ST.out) | skip)) | fail)
        all_goals (go_wp2_with fail; go_meet; case rel => (refine ⟨_, r24t, r24a, r24n, r24s, r31t, r31a, r31n, r31s, rfl, ?_⟩; exact St.keep (by ((with_reducible iterate 4 try first | apply St.drew | apply St.alloc | apply St.allocR | apply St.putR); ((with_reducible exact ST.out); all_goals (first | rfl | (simp; done) | (simp; omega))))) (fun H => (((((((((H.bare.pick H (by with_reducible ((repeat ((fail_if_success exact mem0); apply List.mem_cons_of_mem)); exact mem0))).pick H (by with_reducible ((repeat ((fail_if_success exact mem0); apply List.mem_cons_of_mem)); exact mem0))).pick H (by with_reducible ((repeat ((fail_if_success exact mem0); apply List.mem_cons_of_mem)); exact mem0))).pick H (by with_reducible ((repeat ((fail_if_success exact mem0); apply List.mem_cons_of_mem)); exact mem0))).pick H (by with_reducible ((repeat ((fail_if_success exact mem0); apply List.mem_cons_of_mem)); exact mem0))).pick H (by with_reducible ((repeat ((fail_if_success exact mem0); apply List.mem_cons_of_mem)); exact mem0))).pick H (by with_reducible ((repeat ((fail_if_success exact mem0); apply List.mem_cons_of_mem)); exact mem0)))).sub (List.Sublist.refl _) (List.nil_sublist _) (fun _ he => he)))))
      case rest =>
        obtain ⟨k7, mt, ma, mn, ms, nt, na, nn, ns, rfl, hST⟩ := hcut
        clear ST
        have ST := Lib.hid hST
        clear hST
        obtain ⟨g0, g1, g2, g3, g4, g5, g6, g7, g8, g9, g10, g11⟩ := ST.out.rats (k7, .int .u64 mt, .slice ma mn mn, ms, .int .u64 nt, .slice na nn nn, ns) (by with_reducible ((repeat ((fail_if_success exact mem0); apply List.mem_cons_of_mem)); exact mem0))
        dsimp only at g0 g1 g2 g3 g4 g5 g6 g7 g8 g9 g10 g11
        obtain ⟨c0, c1, c2, c3, c4, c5, c6, c7, c8, c9, c10, c11⟩ := ST.out.rats (k3, .int .u64 xt, .slice xa xn xn, xs, .int .u64 yt, .slice ya yn yn, ys) (by with_reducible ((repeat ((fail_if_success exact mem0); apply List.mem_cons_of_mem)); exact mem0))
        dsimp only at c0 c1 c2 c3 c4 c5 c6 c7 c8 c9 c10 c11
        obtain ⟨d0, d1, d2, d3, d4, d5, d6, d7, d8, d9, d10, d11⟩ := ST.out.rats (k3 + 1, .int .u64 zt, .slice za zn zn, zs, .int .u64 rt, .slice ra rn rn, rs) (by with_reducible ((repeat ((fail_if_success exact mem0); apply List.mem_cons_of_mem)); exact mem0))
        dsimp only at d0 d1 d2 d3 d4 d5 d6 d7 d8 d9 d10 d11
        go_upto_region 7 with fail
        clear g0 g1 g2 g3 g4 g5 g6 g7 g8 g9 g10 g11 c0 c1 c2 c3 c4 c5 c6 c7 c8 c9 c10 c11 d0 d1 d2 d3 d4 d5 d6 d7 d8 d9 d10 d11
        replace ST := Lib.hid ((((ST.out.sub (R' := [(k3 + 1, .int .u64 zt, .slice za zn zn, zs, .int .u64 rt, .slice ra rn rn, rs), (k3, .int .u64 xt, .slice xa xn xn, xs, .int .u64 yt, .slice ya yn yn, ys), (w.heap.size, .int .u64 0, .slice none 0 0, false, .int .u64 0, .slice none 0 0, false)]) (List.sublist_cons_self _ _) (List.Sublist.refl _) (fun _ he => he)).swapR.overR (.int .u64 mt) (.slice ma mn mn) ms (.int .u64 nt) (.slice na nn nn) ns (ST.out.int (x := un) (by with_reducible ((repeat ((fail_if_success exact mem0); apply List.mem_cons_of_mem)); exact mem0))) (ST.out.int (x := ud) (by with_reducible ((repeat ((fail_if_success exact mem0); apply List.mem_cons_of_mem)); exact mem0)))).swapR))
        replace ST := Lib.hid (ST.out.overR (.int .u64 xt) (.slice xa xn xn) xs (.int .u64 yt) (.slice ya yn yn) ys (ST.out.int (x := vn) (by with_reducible ((repeat ((fail_if_success exact mem0); apply List.mem_cons_of_mem)); exact mem0))) (ST.out.int (x := vd) (by with_reducible ((repeat ((fail_if_success exact mem0); apply List.mem_cons_of_mem)); exact mem0))))
        obtain ⟨W8, hW⟩ : ∃ W8, W8 = ((((((((((((wc.setCell ⟨k3, 0, none⟩ (.int .u64 mt)).setCell ⟨k3, 1, none⟩ (.slice ma mn mn)).setCell ⟨k3, 2, none⟩ (.bool ms)).setCell ⟨k3, 3, none⟩ (.int .u64 nt)).setCell ⟨k3, 4, none⟩ (.slice na nn nn)).setCell ⟨k3, 5, none⟩ (.bool ns)).setCell ⟨(k3 + 1), 0, none⟩ (.int .u64 xt)).setCell ⟨(k3 + 1), 1, none⟩ (.slice xa xn xn)).setCell ⟨(k3 + 1), 2, none⟩ (.bool xs)).setCell ⟨(k3 + 1), 3, none⟩ (.int .u64 yt)).setCell ⟨(k3 + 1), 4, none⟩ (.slice ya yn yn)).setCell ⟨(k3 + 1), 5, none⟩ (.bool ys)) := ⟨_, rfl⟩
        rw [← hW] at ST
        rw [← hW]
        clear hW
        obtain ⟨c0, c1, c2, c3, c4, c5, c6, c7, c8, c9, c10, c11⟩ := ST.out.rats (k3, .int .u64 mt, .slice ma mn mn, ms, .int .u64 nt, .slice na nn nn, ns) (by with_reducible ((repeat ((fail_if_success exact mem0); apply List.mem_cons_of_mem)); exact mem0))
        dsimp only at c0 c1 c2 c3 c4 c5 c6 c7 c8 c9 c10 c11
        go_wp2_with fail
        refine St.arm (w := w) (by exact ST.out) (by intro H; exact dig_run (x := n2) (H.int (by with_reducible ((repeat ((fail_if_success exact mem0); apply List.mem_cons_of_mem)); exact mem0)))) ?_
        rintro e w9 ⟨⟨rfl, hb9⟩, H⟩
        replace ST := Lib.hid (H.call hb9)
        clear hb9 H c0 c1 c2 c3 c4 c5 c6 c7 c8 c9 c10 c11
        obtain ⟨D, hD⟩ : ∃ D : Int, D = (dn n2 : Int) := ⟨_, rfl⟩
        rw [← hD]
        have HDD := Lib.hid hD
        clear hD
        by_cases hbig : 1000 < D
        · have hdb : decide (1000 < D) = true := decide_eq_true hbig
          have CBR := Lib.hid (CNH.out.2.2.2 (by have := HDD.out; show 1000 < dn n2; omega)).symm
          obtain ⟨c0, c1, c2, c3, c4, c5⟩ := ST.out.rat (k := k3) (by with_reducible ((repeat ((fail_if_success exact mem0); apply List.mem_cons_of_mem)); exact mem0))
          obtain ⟨q0, q1, q2, q3, q4, q5, q6, q7, q8, q9, q10, q11⟩ := ST.out.rats (w.heap.size, .int .u64 0, .slice none 0 0, false, .int .u64 0, .slice none 0 0, false) (by with_reducible ((repeat ((fail_if_success exact mem0); apply List.mem_cons_of_mem)); exact mem0))
          dsimp only at q0 q1 q2 q3 q4 q5 q6 q7 q8 q9 q10 q11
          go_wp2
          exact bodyPost_ret (v := .agg #[.int .u64 mt, .slice ma mn mn, .bool ms, .int .u64 nt, .slice na nn nn, .bool ns]) (by simp [results, Tryz.results120, go_sem, q0, q1, q2, q3, q4, q5]) rfl (CBR.out ▸ ST.out.giveR (k := w.heap.size) (by with_reducible ((repeat ((fail_if_success exact mem0); apply List.mem_cons_of_mem)); exact mem0)) (Nat.le_refl _) (by with_reducible ((repeat ((fail_if_success exact mem0); apply List.mem_cons_of_mem)); exact mem0)) (by with_reducible ((repeat ((fail_if_success exact mem0); apply List.mem_cons_of_mem)); exact mem0)))
        · have hdb : decide (1000 < D) = false := decide_eq_false hbig
          have CSN := Lib.hid (CNH.out.2.2.1 (by have := HDD.out; show dn n2 ≤ 1000; omega))
          go_wp2
          go_roundw
          case rel => exact ⟨k + 1, (n1, n2, un, ud), by go_num, by omega, ⟨_, _, _, _, _, _, _, _, _, _, _, _, ((((ST.out.bare.pick ST.out (by with_reducible ((repeat ((fail_if_success exact mem0); apply List.mem_cons_of_mem)); exact mem0))).pick ST.out (by with_reducible ((repeat ((fail_if_success exact mem0); apply List.mem_cons_of_mem)); exact mem0))).pick ST.out (by with_reducible ((repeat ((fail_if_success exact mem0); apply List.mem_cons_of_mem)); exact mem0))).pick ST.out (by with_reducible ((repeat ((fail_if_success exact mem0); apply List.mem_cons_of_mem)); exact mem0)))⟩, CSN.out⟩
          case measure => simp [intOf] <;> omega
    · have hkl : k = l.length := by omega
      have CBR := Lib.hid (show (un, ud, vn, vd) = cbr (1, 0, 0, 1) l from by rw [CS.out.cbr, hkl, List.drop_length]; rfl)
      obtain ⟨c0, c1, c2, c3, c4, c5⟩ := ST.out.rat (k := k3) (by with_reducible ((repeat ((fail_if_success exact mem0); apply List.mem_cons_of_mem)); exact mem0))
      obtain ⟨q0, q1, q2, q3, q4, q5, q6, q7, q8, q9, q10, q11⟩ := ST.out.rats (w.heap.size, .int .u64 0, .slice none 0 0, false, .int .u64 0, .slice none 0 0, false) (by with_reducible ((repeat ((fail_if_success exact mem0); apply List.mem_cons_of_mem)); exact mem0))
      dsimp only at q0 q1 q2 q3 q4 q5 q6 q7 q8 q9 q10 q11
      go_wp2
      exact bodyPost_ret (v := .agg #[.int .u64 xt, .slice xa xn xn, .bool xs, .int .u64 yt, .slice ya yn yn, .bool ys]) (by simp [results, Tryz.results120, go_sem, q0, q1, q2, q3, q4, q5]) rfl (CBR.out ▸ ST.out.giveR (k := w.heap.size) (by with_reducible ((repeat ((fail_if_success exact mem0); apply List.mem_cons_of_mem)); exact mem0)) (Nat.le_refl _) (by with_reducible ((repeat ((fail_if_success exact mem0); apply List.mem_cons_of_mem)); exact mem0)) (by with_reducible ((repeat ((fail_if_success exact mem0); apply List.mem_cons_of_mem)); exact mem0)))
end Go.Proofs.YtkhebidmfjbhaaaGreatDoor
