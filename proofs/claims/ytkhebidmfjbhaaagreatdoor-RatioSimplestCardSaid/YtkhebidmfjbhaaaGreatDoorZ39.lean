/-
  What Simplest returns.
  ratio's exported functions on rational numbers of Lean's core.
  What awake of layer 3's laws returns: the chapter's examples hold.
  What awake of layer 3's laws returns.
-/
import Derived.Test.YtkhebidmfjbhaaaGreatDoorZ38
import Derived.Deep.RegionHeld3
import Derived.Deep.Cut
namespace Go.Proofs.YtkhebidmfjbhaaaGreatDoor
open Go.RowKit

theorem simplest_run {n d m k : Int} (hiv : Iv n d m k) (hn : dn n ≤ 1000) (hd : dn d ≤ 1000) (hm : dn m ≤ 1000) (hk : dn k ≤ 1000) : OpR2 125 n d m k (cfv (sterms ((d + k).toNat + 1) n d m k)).num (cfv (sterms ((d + k).toNat + 1) n d m k)).den := by
  intro p v b q u c p' v' b' q' u' c' W h1 h2 h3 h4
  have hf : (d + k).toNat < (d + k).toNat + 1 := by omega
  have tm := Tm.of hiv hf hn hd hm hk
  have si := sterms_rat n d m k _ hiv hf
  have h := simplest_any p v b q u c p' v' b' q' u' c' n d m k W h1 h2 h3 h4 hiv hn hd hm hk _ _ hf rfl
  obtain ⟨L, hL⟩ : ∃ L, L = sterms ((d + k).toNat + 1) n d m k := ⟨_, rfl⟩
  rw [← hL] at h tm si ⊢
  have hden : dn ((cfv L).den : Int) ≤ 1000 := Nat.le_trans (dn_mono (by omega) (si.least n d hiv.d0 (Int.le_refl _) hiv.le).1) hd
  obtain ⟨c0, l, rfl⟩ := List.exists_cons_of_ne_nil tm.ne
  obtain ⟨e1, e2⟩ := cfv_cvs (c := c0) (l := l) tm.pos
  have e3 : cbr (1, 0, 0, 1) (c0 :: l) = cvs (1, 0, 0, 1) (c0 :: l) := by
    have h5 : cbr (cstep (1, 0, 0, 1) c0) l = cvs (cstep (1, 0, 0, 1) c0) l := cbr_cvs l _ (Cv.start.step (by simp)) tm.pos (by rw [e2] at hden; exact hden)
    show (if 1000 < dn (cstep (1, 0, 0, 1) c0).2.1 then cstep (1, 0, 0, 1) c0 else cbr (cstep (1, 0, 0, 1) c0) l) = _
    rw [if_neg (by simp [cstep, dn_one]), h5]
    rfl
  rw [e3, ← e1, ← e2] at h
  exact h
set_option maxHeartbeats 4000000 in
set_option maxRecDepth 100000 in
theorem Simplest_pos (A B : ByteArray) (x y z r : Int) (w : World) (Q : Rat) (tb : Tb w) (CA : PR A x y true) (CB : PE B z r true) (CL : OpL z r x y false) (h0 : sg x = 1) (CS : OpR2 125 x y z r Q.num Q.den) : Calls Tryz.prog 64 #[.string A, .string B] w (GivesQx Q w) := by
  replace CA := Lib.hid CA
  replace CB := Lib.hid CB
  replace CL := Lib.hid CL
  replace CS := Lib.hid CS
  have H0 := Lib.hid h0
  have TB := Lib.hid tb
  clear h0 tb
  go_enter Tryz.func64, Tryz.ntmps64
  have ST : St w w [] [] [] := St.zero
  replace ST := Lib.hid ST
  go_wp2_with fail
  refine Calls.mono (CA.out _) ?_
  rintro e w1 ⟨p1, v1, o1, u1, rfl, hv1, hu1, hb1⟩
  obtain ⟨r1s, hs1⟩ : ∃ sgn, sgn = decide (x < 0) := ⟨_, rfl⟩
  obtain ⟨q1s, ht1⟩ : ∃ sgn, sgn = decide (y < 0) := ⟨_, rfl⟩
  rw [← hs1, ← ht1]
  have hi := And.intro hv1 hs1
  have hj := And.intro hu1 ht1
  obtain ⟨r1t, r1a, r1n, rfl, rfl, -, -, -, -, -, -⟩ := hv1.form
  obtain ⟨q1t, q1a, q1n, rfl, rfl, -, -, -, -, -, -⟩ := hu1.form
  replace ST := Lib.hid (((ST.out.call hb1).know hj).know hi)
  clear hi hj hv1 hu1 hb1 hs1 ht1
  go_upto_region 2 with fail
  obtain ⟨W1, hW⟩ : ∃ W, W = w1.alloc (.cells #[.int .u64 r1t, .slice r1a r1n r1n, .bool r1s, .int .u64 q1t, .slice q1a q1n q1n, .bool q1s] 76) := ⟨_, rfl⟩
  rw [← hW]
  replace ST := ST.out.allocV (.int .u64 r1t) (.slice r1a r1n r1n) r1s (.int .u64 q1t) (.slice q1a q1n q1n) q1s 76 w1.heap.size rfl
  rw [← hW] at ST
  clear hW
  replace ST := Lib.hid ST
  obtain ⟨k1, hk⟩ : ∃ k, k = w1.heap.size := ⟨_, rfl⟩
  rw [← hk] at ST ⊢
  clear hk
  go_wp2_with fail
  refine Calls.mono (CB.out _) ?_
  rintro e w2 ⟨p2, v2, o2, u2, rfl, hv2, hu2, hb2⟩
  obtain ⟨r2s, hs2⟩ : ∃ sgn, sgn = decide (z < 0) := ⟨_, rfl⟩
  obtain ⟨q2s, ht2⟩ : ∃ sgn, sgn = decide (r < 0) := ⟨_, rfl⟩
  rw [← hs2, ← ht2]
  have hi := And.intro hv2 hs2
  have hj := And.intro hu2 ht2
  obtain ⟨r2t, r2a, r2n, rfl, rfl, -, -, -, -, -, -⟩ := hv2.form
  obtain ⟨q2t, q2a, q2n, rfl, rfl, -, -, -, -, -, -⟩ := hu2.form
  replace ST := Lib.hid (((ST.out.call hb2).know hj).know hi)
  clear hi hj hv2 hu2 hb2 hs2 ht2
  go_upto_region 3 with fail
  obtain ⟨W2, hW⟩ : ∃ W, W = w2.alloc (.cells #[.int .u64 r2t, .slice r2a r2n r2n, .bool r2s, .int .u64 q2t, .slice q2a q2n q2n, .bool q2s] 76) := ⟨_, rfl⟩
  rw [← hW]
  replace ST := ST.out.allocV (.int .u64 r2t) (.slice r2a r2n r2n) r2s (.int .u64 q2t) (.slice q2a q2n q2n) q2s 76 w2.heap.size rfl
  rw [← hW] at ST
  clear hW
  replace ST := Lib.hid ST
  obtain ⟨k2, hk⟩ : ∃ k, k = w2.heap.size := ⟨_, rfl⟩
  rw [← hk] at ST ⊢
  clear hk
  obtain ⟨c0, c1, c2, c3, c4, c5⟩ := ST.out.rat (k := k2) (by with_reducible ((repeat ((fail_if_success exact mem0); apply List.mem_cons_of_mem)); exact mem0))
  obtain ⟨d0, d1, d2, d3, d4, d5⟩ := ST.out.rat (k := k1) (by with_reducible ((repeat ((fail_if_success exact mem0); apply List.mem_cons_of_mem)); exact mem0))
  go_wp2_with fail
  refine St.arm (w := w) (by exact ST.out) (by intro H; with_reducible exact CL.out.run (H.int (x := z) (by with_reducible ((repeat ((fail_if_success exact mem0); apply List.mem_cons_of_mem)); exact mem0))) (H.int (x := r) (by with_reducible ((repeat ((fail_if_success exact mem0); apply List.mem_cons_of_mem)); exact mem0))) (H.int (x := x) (by with_reducible ((repeat ((fail_if_success exact mem0); apply List.mem_cons_of_mem)); exact mem0))) (H.int (x := y) (by with_reducible ((repeat ((fail_if_success exact mem0); apply List.mem_cons_of_mem)); exact mem0)))) ?_
  rintro e w3 ⟨⟨rfl, hb3⟩, H⟩
  replace ST := Lib.hid (H.call hb3)
  clear hb3 H c0 c1 c2 c3 c4 c5 d0 d1 d2 d3 d4 d5
  obtain ⟨c0, c1, c2, c3, c4, c5⟩ := ST.out.rat (k := k1) (by with_reducible ((repeat ((fail_if_success exact mem0); apply List.mem_cons_of_mem)); exact mem0))
  go_wp2_with fail
  refine St.arm (w := w) (by exact ST.out) (by intro H; exact sign_run (x := x) (H.int (by with_reducible ((repeat ((fail_if_success exact mem0); apply List.mem_cons_of_mem)); exact mem0)))) ?_
  rintro e w4 ⟨⟨rfl, hb4⟩, H⟩
  rw [H0.out]
  replace ST := Lib.hid (H.call hb4)
  clear hb4 H c0 c1 c2 c3 c4 c5
  obtain ⟨c0, c1, c2, c3, c4, c5⟩ := ST.out.rat (k := k1) (by with_reducible ((repeat ((fail_if_success exact mem0); apply List.mem_cons_of_mem)); exact mem0))
  obtain ⟨d0, d1, d2, d3, d4, d5⟩ := ST.out.rat (k := k2) (by with_reducible ((repeat ((fail_if_success exact mem0); apply List.mem_cons_of_mem)); exact mem0))
  go_wp2_with fail
  refine St.arm (w := w) (by exact ST.out) (by intro H; with_reducible exact OpR2.run CS.out (H.int (x := x) (by with_reducible ((repeat ((fail_if_success exact mem0); apply List.mem_cons_of_mem)); exact mem0))) (H.int (x := y) (by with_reducible ((repeat ((fail_if_success exact mem0); apply List.mem_cons_of_mem)); exact mem0))) (H.int (x := z) (by with_reducible ((repeat ((fail_if_success exact mem0); apply List.mem_cons_of_mem)); exact mem0))) (H.int (x := r) (by with_reducible ((repeat ((fail_if_success exact mem0); apply List.mem_cons_of_mem)); exact mem0)))) ?_
  rintro e w5 ⟨⟨p5, v5, o5, u5, rfl, hv5, hu5, hb5⟩, H⟩
  obtain ⟨r5s, hs5⟩ : ∃ sgn, sgn = decide (Q.num < 0) := ⟨_, rfl⟩
  obtain ⟨q5s, ht5⟩ : ∃ sgn, sgn = decide ((Q.den : Int) < 0) := ⟨_, rfl⟩
  rw [← hs5, ← ht5]
  have hi := And.intro hv5 hs5
  have hj := And.intro hu5 ht5
  obtain ⟨r5t, r5a, r5n, rfl, rfl, -, -, -, -, -, -⟩ := hv5.form
  obtain ⟨q5t, q5a, q5n, rfl, rfl, -, -, -, -, -, -⟩ := hu5.form
  replace ST := Lib.hid (((H.call hb5).know hj).know hi)
  clear hi hj hv5 hu5 hb5 hs5 ht5
  clear H c0 c1 c2 c3 c4 c5 d0 d1 d2 d3 d4 d5
  go_wp2_with fail
  refine Calls.mono (ratext_any _ _ _ _ _ _ Q _ (TB.out.below ST.out.below) (ST.out.int (by with_reducible ((repeat ((fail_if_success exact mem0); apply List.mem_cons_of_mem)); exact mem0))) (ST.out.int (by with_reducible ((repeat ((fail_if_success exact mem0); apply List.mem_cons_of_mem)); exact mem0)))) ?_
  rintro e w15 ⟨rfl, hb15⟩
  obtain ⟨T, hT⟩ : ∃ T, T = (if dn Q.num ≤ 1000 ∧ dn Q.den ≤ 1000 then qx Q else ⟨#[]⟩) := ⟨_, rfl⟩
  obtain ⟨E, hE⟩ : ∃ E : Int, E = (if dn Q.num ≤ 1000 ∧ dn Q.den ≤ 1000 then 0 else 3) := ⟨_, rfl⟩
  rw [← hT, ← hE]
  have HT := Lib.hid hT
  have HE := Lib.hid hE
  replace ST := Lib.hid (ST.out.call hb15)
  clear hT hE hb15
  go_wp2
  go_ret2
  exact ⟨by rw [← HT.out, ← HE.out]; rfl, ST.out.below⟩
set_option maxHeartbeats 4000000 in
set_option maxRecDepth 100000 in
theorem Simplest_zero (A B : ByteArray) (x y z r : Int) (w : World) (CA : PR A x y true) (CB : PE B z r true) (CL : OpL z r x y false) (s1 s2 : Int) (h0 : sg x = s1) (h1 : sg z = s2) (hs1 : s1 ≤ 0) (hs2 : 0 ≤ s2) : Calls Tryz.prog 64 #[.string A, .string B] w (GivesSn ⟨#[48]⟩ 0 w) := by
  replace CA := Lib.hid CA
  replace CB := Lib.hid CB
  replace CL := Lib.hid CL
  have H0 := Lib.hid h0
  have H1 := Lib.hid h1
  have e1 : ¬ 0 < s1 := by omega
  have e2 : ¬ s2 < 0 := by omega
  clear h0 h1
  go_enter Tryz.func64, Tryz.ntmps64
  have ST : St w w [] [] [] := St.zero
  replace ST := Lib.hid ST
  go_wp2_with fail
  refine Calls.mono (CA.out _) ?_
  rintro e w1 ⟨p1, v1, o1, u1, rfl, hv1, hu1, hb1⟩
  obtain ⟨r1s, hs1⟩ : ∃ sgn, sgn = decide (x < 0) := ⟨_, rfl⟩
  obtain ⟨q1s, ht1⟩ : ∃ sgn, sgn = decide (y < 0) := ⟨_, rfl⟩
  rw [← hs1, ← ht1]
  have hi := And.intro hv1 hs1
  have hj := And.intro hu1 ht1
  obtain ⟨r1t, r1a, r1n, rfl, rfl, -, -, -, -, -, -⟩ := hv1.form
  obtain ⟨q1t, q1a, q1n, rfl, rfl, -, -, -, -, -, -⟩ := hu1.form
  replace ST := Lib.hid (((ST.out.call hb1).know hj).know hi)
  clear hi hj hv1 hu1 hb1 hs1 ht1
  go_upto_region 2 with fail
  obtain ⟨W1, hW⟩ : ∃ W, W = w1.alloc (.cells #[.int .u64 r1t, .slice r1a r1n r1n, .bool r1s, .int .u64 q1t, .slice q1a q1n q1n, .bool q1s] 76) := ⟨_, rfl⟩
  rw [← hW]
  replace ST := ST.out.allocV (.int .u64 r1t) (.slice r1a r1n r1n) r1s (.int .u64 q1t) (.slice q1a q1n q1n) q1s 76 w1.heap.size rfl
  rw [← hW] at ST
  clear hW
  replace ST := Lib.hid ST
  obtain ⟨k1, hk⟩ : ∃ k, k = w1.heap.size := ⟨_, rfl⟩
  rw [← hk] at ST ⊢
  clear hk
  go_wp2_with fail
  refine Calls.mono (CB.out _) ?_
  rintro e w2 ⟨p2, v2, o2, u2, rfl, hv2, hu2, hb2⟩
  obtain ⟨r2s, hs2⟩ : ∃ sgn, sgn = decide (z < 0) := ⟨_, rfl⟩
  obtain ⟨q2s, ht2⟩ : ∃ sgn, sgn = decide (r < 0) := ⟨_, rfl⟩
  rw [← hs2, ← ht2]
  have hi := And.intro hv2 hs2
  have hj := And.intro hu2 ht2
  obtain ⟨r2t, r2a, r2n, rfl, rfl, -, -, -, -, -, -⟩ := hv2.form
  obtain ⟨q2t, q2a, q2n, rfl, rfl, -, -, -, -, -, -⟩ := hu2.form
  replace ST := Lib.hid (((ST.out.call hb2).know hj).know hi)
  clear hi hj hv2 hu2 hb2 hs2 ht2
  go_upto_region 3 with fail
  obtain ⟨W2, hW⟩ : ∃ W, W = w2.alloc (.cells #[.int .u64 r2t, .slice r2a r2n r2n, .bool r2s, .int .u64 q2t, .slice q2a q2n q2n, .bool q2s] 76) := ⟨_, rfl⟩
  rw [← hW]
  replace ST := ST.out.allocV (.int .u64 r2t) (.slice r2a r2n r2n) r2s (.int .u64 q2t) (.slice q2a q2n q2n) q2s 76 w2.heap.size rfl
  rw [← hW] at ST
  clear hW
  replace ST := Lib.hid ST
  obtain ⟨k2, hk⟩ : ∃ k, k = w2.heap.size := ⟨_, rfl⟩
  rw [← hk] at ST ⊢
  clear hk
  obtain ⟨c0, c1, c2, c3, c4, c5⟩ := ST.out.rat (k := k2) (by with_reducible ((repeat ((fail_if_success exact mem0); apply List.mem_cons_of_mem)); exact mem0))
  obtain ⟨d0, d1, d2, d3, d4, d5⟩ := ST.out.rat (k := k1) (by with_reducible ((repeat ((fail_if_success exact mem0); apply List.mem_cons_of_mem)); exact mem0))
  go_wp2_with fail
  refine St.arm (w := w) (by exact ST.out) (by intro H; with_reducible exact CL.out.run (H.int (x := z) (by with_reducible ((repeat ((fail_if_success exact mem0); apply List.mem_cons_of_mem)); exact mem0))) (H.int (x := r) (by with_reducible ((repeat ((fail_if_success exact mem0); apply List.mem_cons_of_mem)); exact mem0))) (H.int (x := x) (by with_reducible ((repeat ((fail_if_success exact mem0); apply List.mem_cons_of_mem)); exact mem0))) (H.int (x := y) (by with_reducible ((repeat ((fail_if_success exact mem0); apply List.mem_cons_of_mem)); exact mem0)))) ?_
  rintro e w3 ⟨⟨rfl, hb3⟩, H⟩
  replace ST := Lib.hid (H.call hb3)
  clear hb3 H c0 c1 c2 c3 c4 c5 d0 d1 d2 d3 d4 d5
  obtain ⟨c0, c1, c2, c3, c4, c5⟩ := ST.out.rat (k := k1) (by with_reducible ((repeat ((fail_if_success exact mem0); apply List.mem_cons_of_mem)); exact mem0))
  go_wp2_with fail
  refine St.arm (w := w) (by exact ST.out) (by intro H; exact sign_run (x := x) (H.int (by with_reducible ((repeat ((fail_if_success exact mem0); apply List.mem_cons_of_mem)); exact mem0)))) ?_
  rintro e w4 ⟨⟨rfl, hb4⟩, H⟩
  rw [H0.out]
  replace ST := Lib.hid (H.call hb4)
  clear hb4 H c0 c1 c2 c3 c4 c5
  obtain ⟨c0, c1, c2, c3, c4, c5⟩ := ST.out.rat (k := k2) (by with_reducible ((repeat ((fail_if_success exact mem0); apply List.mem_cons_of_mem)); exact mem0))
  go_wp2_with fail
  refine St.arm (w := w) (by exact ST.out) (by intro H; exact sign_run (x := z) (H.int (by with_reducible ((repeat ((fail_if_success exact mem0); apply List.mem_cons_of_mem)); exact mem0)))) ?_
  rintro e w5 ⟨⟨rfl, hb5⟩, H⟩
  rw [H1.out]
  replace ST := Lib.hid (H.call hb5)
  clear hb5 H c0 c1 c2 c3 c4 c5
  go_wp2
  go_ret2
  exact ⟨rfl, ST.out.below⟩
set_option maxHeartbeats 4000000 in
set_option maxRecDepth 100000 in
theorem Simplest_neg (A B : ByteArray) (x y z r : Int) (w : World) (S Q : Rat) (nx nz : Int) (tb : Tb w) (CA : PR A x y true) (CB : PE B z r true) (CL : OpL z r x y false) (h0 : sg x = -1) (h1 : sg z = -1) (C1 : OpR1 126 z r nz r) (C2 : OpR1 126 x y nx y) (C3 : OpR2 125 nz r nx y S.num S.den) (C4 : OpR1 126 S.num S.den Q.num Q.den) : Calls Tryz.prog 64 #[.string A, .string B] w (GivesQx Q w) := by
  replace CA := Lib.hid CA
  replace CB := Lib.hid CB
  replace CL := Lib.hid CL
  replace C1 := Lib.hid C1
  replace C2 := Lib.hid C2
  replace C3 := Lib.hid C3
  replace C4 := Lib.hid C4
  have H0 := Lib.hid h0
  have H1 := Lib.hid h1
  have TB := Lib.hid tb
  clear h0 h1 tb
  go_enter Tryz.func64, Tryz.ntmps64
  have ST : St w w [] [] [] := St.zero
  replace ST := Lib.hid ST
  go_wp2_with fail
  refine Calls.mono (CA.out _) ?_
  rintro e w1 ⟨p1, v1, o1, u1, rfl, hv1, hu1, hb1⟩
  obtain ⟨r1s, hs1⟩ : ∃ sgn, sgn = decide (x < 0) := ⟨_, rfl⟩
  obtain ⟨q1s, ht1⟩ : ∃ sgn, sgn = decide (y < 0) := ⟨_, rfl⟩
  rw [← hs1, ← ht1]
  have hi := And.intro hv1 hs1
  have hj := And.intro hu1 ht1
  obtain ⟨r1t, r1a, r1n, rfl, rfl, -, -, -, -, -, -⟩ := hv1.form
  obtain ⟨q1t, q1a, q1n, rfl, rfl, -, -, -, -, -, -⟩ := hu1.form
  replace ST := Lib.hid (((ST.out.call hb1).know hj).know hi)
  clear hi hj hv1 hu1 hb1 hs1 ht1
  go_upto_region 2 with fail
  obtain ⟨W1, hW⟩ : ∃ W, W = w1.alloc (.cells #[.int .u64 r1t, .slice r1a r1n r1n, .bool r1s, .int .u64 q1t, .slice q1a q1n q1n, .bool q1s] 76) := ⟨_, rfl⟩
  rw [← hW]
  replace ST := ST.out.allocV (.int .u64 r1t) (.slice r1a r1n r1n) r1s (.int .u64 q1t) (.slice q1a q1n q1n) q1s 76 w1.heap.size rfl
  rw [← hW] at ST
  clear hW
  replace ST := Lib.hid ST
  obtain ⟨k1, hk⟩ : ∃ k, k = w1.heap.size := ⟨_, rfl⟩
  rw [← hk] at ST ⊢
  clear hk
  go_wp2_with fail
  refine Calls.mono (CB.out _) ?_
  rintro e w2 ⟨p2, v2, o2, u2, rfl, hv2, hu2, hb2⟩
  obtain ⟨r2s, hs2⟩ : ∃ sgn, sgn = decide (z < 0) := ⟨_, rfl⟩
  obtain ⟨q2s, ht2⟩ : ∃ sgn, sgn = decide (r < 0) := ⟨_, rfl⟩
  rw [← hs2, ← ht2]
  have hi := And.intro hv2 hs2
  have hj := And.intro hu2 ht2
  obtain ⟨r2t, r2a, r2n, rfl, rfl, -, -, -, -, -, -⟩ := hv2.form
  obtain ⟨q2t, q2a, q2n, rfl, rfl, -, -, -, -, -, -⟩ := hu2.form
  replace ST := Lib.hid (((ST.out.call hb2).know hj).know hi)
  clear hi hj hv2 hu2 hb2 hs2 ht2
  go_upto_region 3 with fail
  obtain ⟨W2, hW⟩ : ∃ W, W = w2.alloc (.cells #[.int .u64 r2t, .slice r2a r2n r2n, .bool r2s, .int .u64 q2t, .slice q2a q2n q2n, .bool q2s] 76) := ⟨_, rfl⟩
  rw [← hW]
  replace ST := ST.out.allocV (.int .u64 r2t) (.slice r2a r2n r2n) r2s (.int .u64 q2t) (.slice q2a q2n q2n) q2s 76 w2.heap.size rfl
  rw [← hW] at ST
  clear hW
  replace ST := Lib.hid ST
  obtain ⟨k2, hk⟩ : ∃ k, k = w2.heap.size := ⟨_, rfl⟩
  rw [← hk] at ST ⊢
  clear hk
  obtain ⟨c0, c1, c2, c3, c4, c5⟩ := ST.out.rat (k := k2) (by with_reducible ((repeat ((fail_if_success exact mem0); apply List.mem_cons_of_mem)); exact mem0))
  obtain ⟨d0, d1, d2, d3, d4, d5⟩ := ST.out.rat (k := k1) (by with_reducible ((repeat ((fail_if_success exact mem0); apply List.mem_cons_of_mem)); exact mem0))
  go_wp2_with fail
  refine St.arm (w := w) (by exact ST.out) (by intro H; with_reducible exact CL.out.run (H.int (x := z) (by with_reducible ((repeat ((fail_if_success exact mem0); apply List.mem_cons_of_mem)); exact mem0))) (H.int (x := r) (by with_reducible ((repeat ((fail_if_success exact mem0); apply List.mem_cons_of_mem)); exact mem0))) (H.int (x := x) (by with_reducible ((repeat ((fail_if_success exact mem0); apply List.mem_cons_of_mem)); exact mem0))) (H.int (x := y) (by with_reducible ((repeat ((fail_if_success exact mem0); apply List.mem_cons_of_mem)); exact mem0)))) ?_
  rintro e w3 ⟨⟨rfl, hb3⟩, H⟩
  replace ST := Lib.hid (H.call hb3)
  clear hb3 H c0 c1 c2 c3 c4 c5 d0 d1 d2 d3 d4 d5
  obtain ⟨c0, c1, c2, c3, c4, c5⟩ := ST.out.rat (k := k1) (by with_reducible ((repeat ((fail_if_success exact mem0); apply List.mem_cons_of_mem)); exact mem0))
  go_wp2_with fail
  refine St.arm (w := w) (by exact ST.out) (by intro H; exact sign_run (x := x) (H.int (by with_reducible ((repeat ((fail_if_success exact mem0); apply List.mem_cons_of_mem)); exact mem0)))) ?_
  rintro e w4 ⟨⟨rfl, hb4⟩, H⟩
  rw [H0.out]
  replace ST := Lib.hid (H.call hb4)
  clear hb4 H c0 c1 c2 c3 c4 c5
  obtain ⟨c0, c1, c2, c3, c4, c5⟩ := ST.out.rat (k := k2) (by with_reducible ((repeat ((fail_if_success exact mem0); apply List.mem_cons_of_mem)); exact mem0))
  go_wp2_with fail
  refine St.arm (w := w) (by exact ST.out) (by intro H; exact sign_run (x := z) (H.int (by with_reducible ((repeat ((fail_if_success exact mem0); apply List.mem_cons_of_mem)); exact mem0)))) ?_
  rintro e w5 ⟨⟨rfl, hb5⟩, H⟩
  rw [H1.out]
  replace ST := Lib.hid (H.call hb5)
  clear hb5 H c0 c1 c2 c3 c4 c5
  go_upto_region 8 with fail
  go_region_held3 (fun W => (W.cell? ⟨k2, 0, none⟩ = some (.int .u64 r2t) ∧ W.cell? ⟨k2, 1, none⟩ = some (.slice r2a r2n r2n) ∧ W.cell? ⟨k2, 2, none⟩ = some (.bool r2s) ∧ W.cell? ⟨k2, 3, none⟩ = some (.int .u64 q2t) ∧ W.cell? ⟨k2, 4, none⟩ = some (.slice q2a q2n q2n) ∧ W.cell? ⟨k2, 5, none⟩ = some (.bool q2s)) ∧ (W.cell? ⟨k1, 0, none⟩ = some (.int .u64 r1t) ∧ W.cell? ⟨k1, 1, none⟩ = some (.slice r1a r1n r1n) ∧ W.cell? ⟨k1, 2, none⟩ = some (.bool r1s) ∧ W.cell? ⟨k1, 3, none⟩ = some (.int .u64 q1t) ∧ W.cell? ⟨k1, 4, none⟩ = some (.slice q1a q1n q1n) ∧ W.cell? ⟨k1, 5, none⟩ = some (.bool q1s))) (exact ⟨St.rat (w := w) (by ((with_reducible iterate 4 try first | apply St.drew | apply St.alloc | apply St.allocR | apply St.putR); ((with_reducible exact ST.out); all_goals (first | rfl | (simp; done) | (simp; omega))))) (by with_reducible ((repeat ((fail_if_success exact mem0); apply List.mem_cons_of_mem)); exact mem0)), St.rat (w := w) (by ((with_reducible iterate 4 try first | apply St.drew | apply St.alloc | apply St.allocR | apply St.putR); ((with_reducible exact ST.out); all_goals (first | rfl | (simp; done) | (simp; omega))))) (by with_reducible ((repeat ((fail_if_success exact mem0); apply List.mem_cons_of_mem)); exact mem0))⟩) (first | (go_at_call 126; refine St.arm (w := w) (by ((with_reducible iterate 4 try first | apply St.drew | apply St.alloc | apply St.allocR | apply St.putR); ((with_reducible exact ST.out); all_goals (first | rfl | (simp; done) | (simp; omega))))) (by intro H; with_reducible exact OpR1.run C1.out (H.int (x := z) (by with_reducible ((repeat ((fail_if_success exact mem0); apply List.mem_cons_of_mem)); exact mem0))) (H.int (x := r) (by with_reducible ((repeat ((fail_if_success exact mem0); apply List.mem_cons_of_mem)); exact mem0)))) ?_; rintro e w7 ⟨⟨p7, v7, o7, u7, rfl, hv7, hu7, hb7⟩, H⟩; obtain ⟨r7s, hs7⟩ : ∃ sgn, sgn = decide (nz < 0) := ⟨_, rfl⟩; obtain ⟨q7s, ht7⟩ : ∃ sgn, sgn = decide (r < 0) := ⟨_, rfl⟩; rw [← hs7, ← ht7]; have hi := And.intro hv7 hs7; have hj := And.intro hu7 ht7; obtain ⟨r7t, r7a, r7n, rfl, rfl, -, -, -, -, -, -⟩ := hv7.form; obtain ⟨q7t, q7a, q7n, rfl, rfl, -, -, -, -, -, -⟩ := hu7.form; replace ST := Lib.hid (((H.call hb7).know hj).know hi); clear hi hj hv7 hu7 hb7 hs7 ht7; clear H) | (go_at_call 126; refine St.arm (w := w) (by ((with_reducible iterate 4 try first | apply St.drew | apply St.alloc | apply St.allocR | apply St.putR); ((with_reducible exact ST.out); all_goals (first | rfl | (simp; done) | (simp; omega))))) (by intro H; with_reducible exact OpR1.run C2.out (H.int (x := x) (by with_reducible ((repeat ((fail_if_success exact mem0); apply List.mem_cons_of_mem)); exact mem0))) (H.int (x := y) (by with_reducible ((repeat ((fail_if_success exact mem0); apply List.mem_cons_of_mem)); exact mem0)))) ?_; rintro e w8 ⟨⟨p8, v8, o8, u8, rfl, hv8, hu8, hb8⟩, H⟩; obtain ⟨r8s, hs8⟩ : ∃ sgn, sgn = decide (nx < 0) := ⟨_, rfl⟩; obtain ⟨q8s, ht8⟩ : ∃ sgn, sgn = decide (y < 0) := ⟨_, rfl⟩; rw [← hs8, ← ht8]; have hi := And.intro hv8 hs8; have hj := And.intro hu8 ht8; obtain ⟨r8t, r8a, r8n, rfl, rfl, -, -, -, -, -, -⟩ := hv8.form; obtain ⟨q8t, q8a, q8n, rfl, rfl, -, -, -, -, -, -⟩ := hu8.form; replace ST := Lib.hid (((H.call hb8).know hj).know hi); clear hi hj hv8 hu8 hb8 hs8 ht8; clear H) | (go_at_call 125; refine St.arm (w := w) (by ((with_reducible iterate 4 try first | apply St.drew | apply St.alloc | apply St.allocR | apply St.putR); ((with_reducible exact ST.out); all_goals (first | rfl | (simp; done) | (simp; omega))))) (by intro H; with_reducible exact OpR2.run C3.out (H.int (x := nz) (by with_reducible ((repeat ((fail_if_success exact mem0); apply List.mem_cons_of_mem)); exact mem0))) (H.int (x := r) (by with_reducible ((repeat ((fail_if_success exact mem0); apply List.mem_cons_of_mem)); exact mem0))) (H.int (x := nx) (by with_reducible ((repeat ((fail_if_success exact mem0); apply List.mem_cons_of_mem)); exact mem0))) (H.int (x := y) (by with_reducible ((repeat ((fail_if_success exact mem0); apply List.mem_cons_of_mem)); exact mem0)))) ?_; rintro e w9 ⟨⟨p9, v9, o9, u9, rfl, hv9, hu9, hb9⟩, H⟩; obtain ⟨r9s, hs9⟩ : ∃ sgn, sgn = decide (S.num < 0) := ⟨_, rfl⟩; obtain ⟨q9s, ht9⟩ : ∃ sgn, sgn = decide ((S.den : Int) < 0) := ⟨_, rfl⟩; rw [← hs9, ← ht9]; have hi := And.intro hv9 hs9; have hj := And.intro hu9 ht9; obtain ⟨r9t, r9a, r9n, rfl, rfl, -, -, -, -, -, -⟩ := hv9.form; obtain ⟨q9t, q9a, q9n, rfl, rfl, -, -, -, -, -, -⟩ := hu9.form; replace ST := Lib.hid (((H.call hb9).know hj).know hi); clear hi hj hv9 hu9 hb9 hs9 ht9; clear H) | (go_at_call 126; refine St.arm (w := w) (by ((with_reducible iterate 4 try first | apply St.drew | apply St.alloc | apply St.allocR | apply St.putR); ((with_reducible exact ST.out); all_goals (first | rfl | (simp; done) | (simp; omega))))) (by intro H; with_reducible exact OpR1.run C4.out (H.int (x := S.num) (by with_reducible ((repeat ((fail_if_success exact mem0); apply List.mem_cons_of_mem)); exact mem0))) (H.int (x := (S.den : Int)) (by with_reducible ((repeat ((fail_if_success exact mem0); apply List.mem_cons_of_mem)); exact mem0)))) ?_; rintro e w10 ⟨⟨p10, v10, o10, u10, rfl, hv10, hu10, hb10⟩, H⟩; obtain ⟨r10s, hs10⟩ : ∃ sgn, sgn = decide (Q.num < 0) := ⟨_, rfl⟩; obtain ⟨q10s, ht10⟩ : ∃ sgn, sgn = decide ((Q.den : Int) < 0) := ⟨_, rfl⟩; rw [← hs10, ← ht10]; have hi := And.intro hv10 hs10; have hj := And.intro hu10 ht10; obtain ⟨r10t, r10a, r10n, rfl, rfl, -, -, -, -, -, -⟩ := hv10.form; obtain ⟨q10t, q10a, q10n, rfl, rfl, -, -, -, -, -, -⟩ := hu10.form; replace ST := Lib.hid (((H.call hb10).know hj).know hi); clear hi hj hv10 hu10 hb10 hs10 ht10; clear H) | (go_at_call 103; refine St.arm (w := w) (by ((with_reducible iterate 4 try first | apply St.drew | apply St.alloc | apply St.allocR | apply St.putR); ((with_reducible exact ST.out); all_goals (first | rfl | (simp; done) | (simp; omega))))) (by intro H; with_reducible exact ratext_any _ _ _ _ _ _ Q _ (TB.out.below H.below) (H.int (x := Q.num) (by with_reducible ((repeat ((fail_if_success exact mem0); apply List.mem_cons_of_mem)); exact mem0))) (H.int (x := (Q.den : Int)) (by with_reducible ((repeat ((fail_if_success exact mem0); apply List.mem_cons_of_mem)); exact mem0)))) ?_; rintro e w15 ⟨⟨rfl, hb15⟩, H⟩; obtain ⟨T, hT⟩ : ∃ T, T = (if dn Q.num ≤ 1000 ∧ dn Q.den ≤ 1000 then qx Q else ⟨#[]⟩) := ⟨_, rfl⟩; obtain ⟨E, hE⟩ : ∃ E : Int, E = (if dn Q.num ≤ 1000 ∧ dn Q.den ≤ 1000 then 0 else 3) := ⟨_, rfl⟩; rw [← hT, ← hE]; have HT := Lib.hid hT; have HE := Lib.hid hE; replace ST := Lib.hid (H.call hb15); clear hT hE hb15 H) | fail)
  all_goals (go_wp2; go_ret2; exact ⟨by rw [← HT.out, ← HE.out]; rfl, ST.out.below⟩)
end Go.Proofs.YtkhebidmfjbhaaaGreatDoor
namespace Go.Proofs.YtkhebidmfjbhaaaGreatDoor
open Go.RowKit

theorem Sm.q9k {a : Rat} {k : Nat} (h : Sm 1000 a) (hk : 112 ≤ k) : Q9 k a := h.q.mono hk
theorem Add_q {a b : Rat} (w : World) (tb : Tb w) (ha : Sm 1000 a) (hb : Sm 1000 b) : Calls Tryz.prog 37 #[.string (qx a), .string (qx b)] w (GivesQx (a + b) w) :=
  Add_of _ _ _ _ _ _ w _ tb (BP.ok (PR.q ha) (PR.q hb)) (OpR2.plus (ha.q9k (by omega)) (hb.q9k (by omega)))
theorem Div_q0 {a : Rat} (w : World) (ha : Sm 1000 a) : Calls Tryz.prog 43 #[.string (qx a), .string (qx 0)] w (GivesSn ⟨#[]⟩ 9 w) :=
  Div_zero _ _ _ _ _ _ w (BP.ok (PR.q ha) (PR.q (q := 0) ⟨by show dn 0 ≤ 1000; rw [dn_zero]; omega, by show dn 1 ≤ 1000; rw [dn_one]; omega⟩)) rfl
/-- Two ends compared. -/
def ecmp (a b : Option Rat) : Int := cmp3 (eN a * eD b) (eN b * eD a)
theorem SmE.nl {x : Option Rat} (h : SmE 1000 x) : nl (eN x).natAbs ≤ 20000 ∧ nl (eD x).natAbs ≤ 20000 := by
  cases x with
  | none => exact ⟨Nat.le_trans (nl_small (by decide)) (by decide), Nat.le_trans (nl_small (by decide)) (by decide)⟩
  | some q => exact h.q9k (k := 20000) (by omega)
theorem Cmp_e {a b : Option Rat} (w : World) (ha : SmE 1000 a) (hb : SmE 1000 b) : Calls Tryz.prog 25 #[.string (ex a), .string (ex b)] w (GivesI (ecmp a b) w) :=
  Cmp_of _ _ _ _ _ _ w _ (BE.ok (PE.e ha) (PE.e hb)) (cmpR_run ha.nl.1 ha.nl.2 hb.nl.1 hb.nl.2)
/-- Is one end less? -/
def elt (a b : Option Rat) : Bool := decide (eN a * eD b < eN b * eD a)
theorem less_e {a b : Option Rat} (ha : SmE 1000 a) (hb : SmE 1000 b) : OpL (eN a) (eD a) (eN b) (eD b) (elt a b) := lessR_run ha.nl.1 ha.nl.2 hb.nl.1 hb.nl.2
theorem Max_e {a b : Option Rat} (w : World) (ha : SmE 1000 a) (hb : SmE 1000 b) : Calls Tryz.prog 29 #[.string (ex a), .string (ex b)] w (GivesY (if elt a b = true then ex b else ex a) w) := by
  have h := less_e ha hb
  cases e : elt a b with
  | true => rw [e] at h; exact Max_true _ _ _ _ _ _ w (BE.ok (PE.e ha) (PE.e hb)) h
  | false => rw [e] at h; exact Max_false _ _ _ _ _ _ w (BE.ok (PE.e ha) (PE.e hb)) h
/-- The terms of the simplest number from a to b. -/
def sq (a : Rat) (b : Option Rat) : Rat := cfv (sterms (((a.den : Int) + eD b).toNat + 1) a.num a.den (eN b) (eD b))
theorem iv_of {a : Rat} {b : Option Rat} (h0 : 0 < a.num) (h : elt b (some a) = false) : Iv a.num a.den (eN b) (eD b) := by
  have h1 : ¬ eN b * a.den < a.num * eD b := of_decide_eq_false h
  have hd := a.den_pos
  have hk : 0 ≤ eD b := by
    cases b with
    | none => exact Int.le_refl _
    | some q => show (0 : Int) ≤ (q.den : Int); omega
  refine ⟨h0, by omega, ?_, hk, by omega⟩
  rcases Int.lt_or_le 0 (eN b) with c | c
  · exact c
  · exfalso
    cases b with
    | none => simp [eN] at c
    | some q =>
      have hq := q.den_pos
      have h2 : 0 < a.num * (q.den : Int) := Int.mul_pos h0 (by omega)
      have h3 := Int.mul_nonneg (show 0 ≤ -q.num from by show 0 ≤ -q.num; simp only [eN] at c; omega) (show (0 : Int) ≤ a.den by omega)
      rw [Int.neg_mul] at h3
      simp only [eN, eD] at h1
      omega
theorem dnE {b : Option Rat} (h : SmE 1000 b) : dn (eN b) ≤ 1000 ∧ dn (eD b) ≤ 1000 := by
  cases b with
  | none => exact ⟨by show dn 1 ≤ 1000; rw [dn_one]; omega, by show dn 0 ≤ 1000; rw [dn_zero]; omega⟩
  | some q => exact h
theorem sg_1 {x : Int} (h : 0 < x) : sg x = 1 := by unfold sg; rw [if_neg (by omega), if_neg (by omega)]
theorem sg_m1 {x : Int} (h : x < 0) : sg x = -1 := by unfold sg; rw [if_pos h]
theorem Simplest_q {a : Rat} {b : Option Rat} (w : World) (tb : Tb w) (ha : Sm 1000 a) (hb : SmE 1000 b) (h0 : 0 < a.num) (h : elt b (some a) = false) : Calls Tryz.prog 64 #[.string (qx a), .string (ex b)] w (GivesQx (sq a b) w) := by
  have hl := less_e (a := b) (b := some a) hb ha
  rw [h] at hl
  exact Simplest_pos _ _ _ _ _ _ w _ tb (PR.q ha) (PE.e hb) hl (sg_1 h0) (simplest_run (iv_of h0 h) ha.1 ha.2 (dnE hb).1 (dnE hb).2)
theorem GivesQx.ok {a : Rat} {w : World} {e : Ending} {w' : World} (h : GivesQx a w e w') (hs : Sm 1000 a) : GivesSn (qx a) 0 w e w' := by
  have hs' : dn a.num ≤ 1000 ∧ dn a.den ≤ 1000 := hs
  unfold GivesQx at h
  rwa [if_pos hs', if_pos hs'] at h
theorem rat_lit {v : Rat} {n d : Int} (hd : 0 < d) (hg : Int.gcd n d = 1) (h : (n : Rat) = d * v) (l m : List UInt8) (hl : Lib.itoa n = l) (hm : Lib.itoa d = m) (h1 : d ≠ 1) : qx v = ⟨(l ++ 47 :: m).toArray⟩ ∧ v.num = n ∧ (v.den : Int) = d := by
  obtain ⟨e1, e2⟩ := rat_of hd hg h
  refine ⟨?_, e1, e2⟩
  rw [qx_frac (by omega), e1, e2]
  apply ba_ext
  rw [ba_mid, tx_list, tx_list, hl, hm]
end Go.Proofs.YtkhebidmfjbhaaaGreatDoor
namespace Go.Proofs.YtkhebidmfjbhaaaGreatDoor
open Go.RowKit

theorem is3_any (s t : ByteArray) (n : Int) (w : World) :
    Calls Tryz.prog 68 #[.string s, .int .i64 n, .string t] w fun e w' => e = .returned (.bool (decide (s = t) && decide (n = 0))) ∧ w = w' := by
  have hst := str_eq s t
  cases hd : decide (s = t)
  · rw [hd] at hst
    clear hd
    go_enter Tryz.func68, Tryz.ntmps68
    go_wp2
    go_ret
    exact ⟨rfl, rfl⟩
  · rw [hd] at hst
    clear hd
    by_cases hn : n = 0
    · have hb : (n == 0) = true := beq_iff_eq.2 hn
      rw [decide_eq_true hn]
      clear hn
      go_enter Tryz.func68, Tryz.ntmps68
      go_wp2
      go_ret
      exact ⟨rfl, rfl⟩
    · have hb : (n == 0) = false := beq_eq_false_iff_ne.2 hn
      rw [decide_eq_false hn]
      clear hn
      go_enter Tryz.func68, Tryz.ntmps68
      go_wp2
      go_ret
      exact ⟨rfl, rfl⟩
theorem is3_yes (s : ByteArray) (w : World) : Calls Tryz.prog 68 #[.string s, .int .i64 0, .string s] w fun e w' => e = .returned (.bool true) ∧ w = w' := by
  refine (is3_any s s 0 w).mono ?_
  rintro e w' ⟨rfl, h⟩
  exact ⟨by rw [decide_eq_true rfl, decide_eq_true rfl]; rfl, h⟩
theorem io1 : Lib.itoa 1 = [49] := by simp [Lib.itoa, Lib.decDigits]
theorem io2 : Lib.itoa 2 = [50] := by simp [Lib.itoa, Lib.decDigits]
theorem io3 : Lib.itoa 3 = [51] := by simp [Lib.itoa, Lib.decDigits]
theorem io5 : Lib.itoa 5 = [53] := by simp [Lib.itoa, Lib.decDigits]
theorem io6 : Lib.itoa 6 = [54] := by simp [Lib.itoa, Lib.decDigits]
theorem io7 : Lib.itoa 7 = [55] := by simp [Lib.itoa, Lib.decDigits]
theorem iom1 : Lib.itoa (-1) = [45, 49] := by simp [Lib.itoa, Lib.decDigits]
theorem iom3 : Lib.itoa (-3) = [45, 51] := by simp [Lib.itoa, Lib.decDigits]
theorem r12 : qx (1 / 2) = ⟨#[49, 47, 50]⟩ ∧ ((1 : Rat) / 2).num = 1 ∧ (((1 : Rat) / 2).den : Int) = 2 := rat_lit (by decide) (by decide) (by simp; grind) [49] [50] io1 io2 (by decide)
theorem r13 : qx (1 / 3) = ⟨#[49, 47, 51]⟩ ∧ ((1 : Rat) / 3).num = 1 ∧ (((1 : Rat) / 3).den : Int) = 3 := rat_lit (by decide) (by decide) (by simp; grind) [49] [51] io1 io3 (by decide)
theorem r56 : qx (5 / 6) = ⟨#[53, 47, 54]⟩ ∧ ((5 : Rat) / 6).num = 5 ∧ (((5 : Rat) / 6).den : Int) = 6 := rat_lit (by decide) (by decide) (by simp; grind) [53] [54] io5 io6 (by decide)
theorem r35 : qx (3 / 5) = ⟨#[51, 47, 53]⟩ ∧ ((3 : Rat) / 5).num = 3 ∧ (((3 : Rat) / 5).den : Int) = 5 := rat_lit (by decide) (by decide) (by simp; grind) [51] [53] io3 io5 (by decide)
theorem r25 : qx (2 / 5) = ⟨#[50, 47, 53]⟩ ∧ ((2 : Rat) / 5).num = 2 ∧ (((2 : Rat) / 5).den : Int) = 5 := rat_lit (by decide) (by decide) (by simp; grind) [50] [53] io2 io5 (by decide)
theorem rm12 : qx (-1 / 2) = ⟨#[45, 49, 47, 50]⟩ ∧ ((-1 : Rat) / 2).num = -1 ∧ (((-1 : Rat) / 2).den : Int) = 2 := rat_lit (by decide) (by decide) (by simp; grind) [45, 49] [50] iom1 io2 (by decide)
theorem rm32 : qx (-3 / 2) = ⟨#[45, 51, 47, 50]⟩ ∧ ((-3 : Rat) / 2).num = -3 ∧ (((-3 : Rat) / 2).den : Int) = 2 := rat_lit (by decide) (by decide) (by simp; grind) [45, 51] [50] iom3 io2 (by decide)
end Go.Proofs.YtkhebidmfjbhaaaGreatDoor
namespace Go.Proofs.YtkhebidmfjbhaaaGreatDoor
open Go.RowKit

theorem noq_frac {n d : Int} (hg : 1 < (Int.gcd n d : Int)) : NoQ (tx n ++ ⟨#[47]⟩ ++ tx d) := by
  intro q _ e
  by_cases hd : q.den = 1
  · have h2 : 47 ∈ (qx q).data.toList := by rw [← e, ba_mid]; simp
    unfold qx at h2
    rw [if_pos hd] at h2
    exact no47 _ h2
  · rw [qx_frac hd] at e
    obtain ⟨h1, h2⟩ := tx47_inj e
    have h3 := tx_inj.1 h2
    have h4 := q_gcd q
    rw [← h1, ← h3] at h4
    omega
theorem lt2 (z : Int) (l : List UInt8) (h : Lib.itoa z = l) : tx z = ⟨l.toArray⟩ := by unfold tx; rw [h]
theorem io0 : Lib.itoa 0 = [48] := by simp [Lib.itoa, Lib.decDigits]
theorem io4 : Lib.itoa 4 = [52] := by simp [Lib.itoa, Lib.decDigits]
theorem sm_of {v : Rat} {n d : Int} (h : v.num = n ∧ (v.den : Int) = d) (hn : dn n ≤ 1000) (hd : dn d ≤ 1000) : Sm 1000 v := ⟨by rw [h.1]; exact hn, by rw [h.2]; exact hd⟩
theorem sq_third : sq (1 / 3) (some (3 / 5)) = 1 / 2 := by
  unfold sq
  simp only [eN, eD]
  rw [r13.2.1, r13.2.2, r35.2.1, r35.2.2, show sterms (((3 : Int) + 5).toNat + 1) 1 3 3 5 = [0, 2] by decide]
  simp only [cfv, Rat.inv_zero, Rat.add_zero]
  simp
  grind
theorem elt_lit {a b : Option Rat} {n d m k : Int} (h1 : eN a = n) (h2 : eD a = d) (h3 : eN b = m) (h4 : eD b = k) : elt a b = decide (n * k < m * d) := by subst h1 h2 h3 h4; rfl
theorem wr_006 : Wr ⟨#[45, 48, 48, 54, 47, 52]⟩ true 47 ⟨#[48, 48, 54]⟩ ⟨#[52]⟩ :=
  ⟨by decide, ⟨by decide, by decide⟩, .inr ⟨.inr rfl, by decide, by decide⟩⟩
set_option maxHeartbeats 4000000 in
set_option maxRecDepth 100000 in
theorem awake3_any (w : World) (tb : Tb w) : Calls Tryz.prog 14 #[] w fun e w' => e = .returned (.bool true) ∧ Below w.heap.size w w' := by
  have d (z : Int) (h1 : -9223372036854775808 ≤ z) (h2 : z ≤ 9223372036854775807) : dn z ≤ 1000 := dn_word h1 h2
  have s12 := sm_of r12.2 (d _ (by omega) (by omega)) (d _ (by omega) (by omega))
  have s13 := sm_of r13.2 (d _ (by omega) (by omega)) (d _ (by omega) (by omega))
  have s35 := sm_of r35.2 (d _ (by omega) (by omega)) (d _ (by omega) (by omega))
  have s25 := sm_of r25.2 (d _ (by omega) (by omega)) (d _ (by omega) (by omega))
  have s56 := sm_of r56.2 (d _ (by omega) (by omega)) (d _ (by omega) (by omega))
  have sm12 := sm_of rm12.2 (d _ (by omega) (by omega)) (d _ (by omega) (by omega))
  have sm32 := sm_of rm32.2 (d _ (by omega) (by omega)) (d _ (by omega) (by omega))
  have A1 : Hid (Calls Tryz.prog 37 #[.string ⟨#[49, 47, 50]⟩, .string ⟨#[49, 47, 51]⟩] w (GivesSn ⟨#[53, 47, 54]⟩ 0 w)) := by
    have h := Add_q w tb s12 s13
    rw [show (1 : Rat) / 2 + 1 / 3 = 5 / 6 by grind, r12.1, r13.1] at h
    have h2 := h.mono (fun e w' h => GivesQx.ok h s56)
    rw [r56.1] at h2
    exact h2
  have A2 : Hid (∀ W, Tb W → Calls Tryz.prog 64 #[.string ⟨#[49, 47, 51]⟩, .string ⟨#[51, 47, 53]⟩] W (GivesSn ⟨#[49, 47, 50]⟩ 0 W)) := by
    intro W tb
    have h := Simplest_q (a := 1 / 3) (b := some (3 / 5)) W tb s13 s35 (by rw [r13.2.1]; decide) ((elt_lit (a := some (3 / 5)) (b := some (1 / 3)) r35.2.1 r35.2.2 r13.2.1 r13.2.2).trans (by decide))
    rw [sq_third] at h
    have h2 := h.mono (fun e w' h => GivesQx.ok h s12)
    rw [r12.1, r13.1] at h2
    rw [show ex (some (3 / 5)) = qx (3 / 5) from rfl, r35.1] at h2
    exact h2
  have A3 : Hid (∀ W, Tb W → Calls Tryz.prog 49 #[.string ⟨#[45, 48, 48, 54, 47, 52]⟩] W (GivesSn ⟨#[45, 51, 47, 50]⟩ 0 W)) := by
    intro W tb
    have e1 : pnum true 47 ⟨#[48, 48, 54]⟩ ⟨#[52]⟩ = -6 := by decide
    have e2 : pden 47 ⟨#[52]⟩ = 4 := by decide
    have h := Parse_of ⟨#[45, 48, 48, 54, 47, 52]⟩ true 47 ⟨#[48, 48, 54]⟩ ⟨#[52]⟩ (-3 / 2) W tb (by decide) wr_006 (by rw [e2]; decide) (by
      rw [e1, e2, Rat.divInt_eq_div]
      simp
      grind)
    have h2 := h.mono (fun e w' h => GivesQx.ok h sm32)
    rw [rm32.1] at h2
    exact h2
  obtain ⟨R1, hR1⟩ : ∃ s, s = (⟨#[45, 49]⟩ : ByteArray) := ⟨_, rfl⟩
  obtain ⟨R2, hR2⟩ : ∃ s, s = (⟨#[105, 110, 102]⟩ : ByteArray) := ⟨_, rfl⟩
  have A4 : Hid (∀ W, Tb W → Calls Tryz.prog 47 #[.string ⟨#[45, 49, 47, 50]⟩] W (GivesSn R1 0 W)) := by
    intro W tb
    have h := Floor_q (-1 / 2) W tb sm12
    rw [rm12.2.1, rm12.2.2, rm12.1, show Int.fdiv (-1) 2 = -1 by decide, lt2 (-1) _ iom1] at h
    rw [hR1]
    exact h
  have A5 : Hid (∀ W, Calls Tryz.prog 29 #[.string ⟨#[55]⟩, .string ⟨#[105, 110, 102]⟩] W (GivesY R2 W)) := by
    intro W
    have s7 : SmE 1000 (some ((7 : Int) : Rat)) := (sm_int (by omega)).2 (d _ (by omega) (by omega))
    have h := Max_e (a := some ((7 : Int) : Rat)) (b := none) W s7 trivial
    rw [show elt (some ((7 : Int) : Rat)) none = true from (elt_lit (a := some ((7 : Int) : Rat)) (b := none) (n := 7) (d := 1) (m := 1) (k := 0) (Rat.num_intCast 7) (by show (((7 : Int) : Rat).den : Int) = 1; rw [Rat.den_intCast]; rfl) rfl rfl).trans (by decide), if_pos rfl] at h
    rw [show ex (some ((7 : Int) : Rat)) = qx ((7 : Int) : Rat) from rfl, qx_int, lt2 7 _ io7] at h
    rw [hR2]
    exact h
  have A6 : Hid (∀ W, Calls Tryz.prog 15 #[.string ⟨#[50, 47, 52]⟩] W (GivesBo false W)) := by
    intro W
    have hn := noq_frac (n := 2) (d := 4) (by decide)
    rw [lt2 2 _ io2, lt2 4 _ io4] at hn
    obtain ⟨n, d, hp⟩ := PR.no (s := ⟨#[50, 47, 52]⟩) (by decide) hn
    exact Valid_of _ _ _ _ W hp
  have A7 : Hid (∀ W, Calls Tryz.prog 15 #[.string ⟨#[48, 47, 53]⟩] W (GivesBo false W)) := by
    intro W
    have hn := noq_frac (n := 0) (d := 5) (by decide)
    rw [lt2 0 _ io0, lt2 5 _ io5] at hn
    obtain ⟨n, d, hp⟩ := PR.no (s := ⟨#[48, 47, 53]⟩) (by decide) hn
    exact Valid_of _ _ _ _ W hp
  have A8 : Hid (∀ W, Calls Tryz.prog 25 #[.string ⟨#[49, 47, 51]⟩, .string ⟨#[50, 47, 53]⟩] W (GivesI (-1) W)) := by
    intro W
    have h := Cmp_e (a := some (1 / 3)) (b := some (2 / 5)) W s13 s25
    rw [show ecmp (some (1 / 3)) (some (2 / 5)) = -1 by unfold ecmp; simp only [eN, eD]; rw [r13.2.1, r13.2.2, r25.2.1, r25.2.2]; decide] at h
    rw [show ex (some (1 / 3)) = qx (1 / 3) from rfl, show ex (some (2 / 5)) = qx (2 / 5) from rfl, r13.1, r25.1] at h
    exact h
  have e1 : (R1.toList == [45, 49]) = true := by rw [Lib.toList_data, hR1]; rfl
  have e2 : (R2.toList == [105, 110, 102]) = true := by rw [Lib.toList_data, hR2]; rfl
  have TB := Lib.hid tb
  clear d s12 s13 s35 s25 s56 sm12 sm32 hR1 hR2 tb
  go_enter Tryz.func14, Tryz.ntmps14
  go_wp2_with fail
  refine A1.out.mono ?_
  rintro e w1 ⟨rfl, hb1⟩
  have B1 := Lib.hid hb1
  have T1 := Lib.hid (TB.out.below hb1)
  clear hb1
  go_wp2_with fail
  refine (A2.out _ T1.out).mono ?_
  rintro e w2 ⟨rfl, hb2⟩
  have B2 := Lib.hid (B1.out.trans (hb2.mono B1.out.size))
  clear hb2
  go_wp2_with fail
  refine (A3.out _ (TB.out.below B2.out)).mono ?_
  rintro e w3 ⟨rfl, hb3⟩
  have B3 := Lib.hid (B2.out.trans (hb3.mono B2.out.size))
  clear hb3
  go_wp2_with fail
  refine (A4.out _ (TB.out.below B3.out)).mono ?_
  rintro e w4 ⟨rfl, hb4⟩
  have B4 := Lib.hid (B3.out.trans (hb4.mono B3.out.size))
  clear hb4
  go_wp2_with (go_at_call 68; (with_reducible refine Calls.mono (is3_yes _ _) ?_); rintro e w' ⟨rfl, rfl⟩)
  refine (A5.out _).mono ?_
  rintro e w5 ⟨rfl, hb5⟩
  have B5 := Lib.hid (B4.out.trans (hb5.mono B4.out.size))
  clear hb5
  go_wp2_with fail
  refine (A6.out _).mono ?_
  rintro e w6 ⟨rfl, hb6⟩
  have B6 := Lib.hid (B5.out.trans (hb6.mono B5.out.size))
  clear hb6
  go_wp2_with fail
  refine (A7.out _).mono ?_
  rintro e w7 ⟨rfl, hb7⟩
  have B7 := Lib.hid (B6.out.trans (hb7.mono B6.out.size))
  clear hb7
  go_wp2_with fail
  refine (A8.out _).mono ?_
  rintro e w8 ⟨rfl, hb8⟩
  have B8 := Lib.hid (B7.out.trans (hb8.mono B7.out.size))
  clear hb8
  go_wp2
  go_ret
  exact ⟨rfl, B8.out⟩
end Go.Proofs.YtkhebidmfjbhaaaGreatDoor
