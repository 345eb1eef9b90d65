/-
  What parse returns where integers stand before and behind the slash.
-/
import Derived.Test.YtkhebidmfjbhaaaGreatDoorZ29
import Derived.Deep.RegionHeld3
import Derived.Deep.Cut
namespace Go.Proofs.YtkhebidmfjbhaaaGreatDoor
open Go.RowKit

theorem less_run {x y : Int} {p v q u : Value} {b c : Bool} {W : World} (hx : IntV W p v b x) (hy : IntV W q u c y) : Calls Tryz.prog 140 #[.agg #[p, v, .bool b], .agg #[q, u, .bool c]] W (GivesBo (decide (x < y)) W) := lessN_any p v b q u c x y W hx hy

set_option maxHeartbeats 4000000 in
set_option maxRecDepth 100000 in
theorem parse_bad3 (X A B : ByteArray) (w : World) (h : X = A ++ ⟨#[47]⟩ ++ B) (ha : ¬ 47 ∈ A.data.toList) (hm : X.size ≤ 4611686018427387904) (n d : Int) (hn : A = tx n) (hd : dn n ≤ 1000) (hnd : B = tx d) (hdd : dn d ≤ 1000) (h1 : d ≤ 1) : Calls Tryz.prog 79 #[.string X] w (GivesRk 0 0 false w) := by
  have hz : X.size = A.size + 1 + B.size := by rw [h, ByteArray.size_append, ByteArray.size_append]; rfl
  have CT := Lib.hid (fun w => cut_at X A B w h ha hm)
  have NT := Lib.hid (fun w => number_tx n w hd)
  rw [← hn] at NT
  have DT := Lib.hid (fun w => number_tx d w hdd)
  rw [← hnd] at DT
  have HL := Lib.hid (show decide ((1 : Int) < d) = false from decide_eq_false (by omega))
  clear h ha hm hz hn hd hnd hdd h1
  go_enter Tryz.func79, Tryz.ntmps79
  go_wp2_with fail
  obtain ⟨W0, hW0⟩ : ∃ W0, W0 = (w.alloc (.cells #[.int .u64 0, .slice none 0 0, .bool false, .int .u64 0, .slice none 0 0, .bool false] 76)) := ⟨_, rfl⟩
  have ST : St w W0 [(w.heap.size, .int .u64 0, .slice none 0 0, false, .int .u64 0, .slice none 0 0, false)] [] [] := by
    rw [hW0]
    exact (St.zero).allocR (k := w.heap.size) (t := 76) (by first | rfl | (simp; done) | (simp; omega))
  replace ST := Lib.hid ST
  rw [← hW0]
  clear hW0
  refine Calls.mono (CT.out _) ?_
  rintro e w1 ⟨rfl, hb1⟩
  replace ST := Lib.hid (ST.out.call hb1)
  clear hb1
  go_wp2_with fail
  refine Calls.mono (NT.out _) ?_
  rintro e w2 ⟨p2, v2, rfl, hv2, hb2⟩
  obtain ⟨r2s, hs2⟩ : ∃ sgn, sgn = decide (n < 0) := ⟨_, rfl⟩
  rw [← hs2]
  have hi := And.intro hv2 hs2
  obtain ⟨r2t, r2a, r2n, rfl, rfl, -, -, -, -, -, -⟩ := hv2.form
  replace ST := Lib.hid ((ST.out.call hb2).know hi)
  clear hi hv2 hb2 hs2
  go_upto_region 3 with fail
  obtain ⟨W2, hW2⟩ : ∃ W, W = w2.alloc (.cells #[.int .u64 r2t, .slice r2a r2n r2n, .bool r2s] 74) := ⟨_, rfl⟩
  rw [← hW2]
  replace ST := ST.out.alloc (p := .int .u64 r2t) (v := .slice r2a r2n r2n) (b := r2s) (t := 74) (k := w2.heap.size) (by first | rfl | (simp; done) | (simp; omega))
  rw [← hW2] at ST
  clear hW2
  replace ST := Lib.hid ST
  obtain ⟨k7, hk⟩ : ∃ k, k = w2.heap.size := ⟨_, rfl⟩
  rw [← hk] at ST ⊢
  clear hk
  go_wp2_with fail
  refine Calls.mono (DT.out _) ?_
  rintro e w4 ⟨p4, v4, rfl, hv4, hb4⟩
  obtain ⟨r4s, hs4⟩ : ∃ sgn, sgn = decide (d < 0) := ⟨_, rfl⟩
  rw [← hs4]
  have hi := And.intro hv4 hs4
  obtain ⟨r4t, r4a, r4n, rfl, rfl, -, -, -, -, -, -⟩ := hv4.form
  replace ST := Lib.hid ((ST.out.call hb4).know hi)
  clear hi hv4 hb4 hs4
  go_upto_region 6 with fail
  obtain ⟨W4, hW4⟩ : ∃ W, W = w4.alloc (.cells #[.int .u64 r4t, .slice r4a r4n r4n, .bool r4s] 74) := ⟨_, rfl⟩
  rw [← hW4]
  replace ST := ST.out.alloc (p := .int .u64 r4t) (v := .slice r4a r4n r4n) (b := r4s) (t := 74) (k := w4.heap.size) (by first | rfl | (simp; done) | (simp; omega))
  rw [← hW4] at ST
  clear hW4
  replace ST := Lib.hid ST
  obtain ⟨k9, hk⟩ : ∃ k, k = w4.heap.size := ⟨_, rfl⟩
  rw [← hk] at ST ⊢
  clear hk
  go_wp2_with fail
  refine St.arm (w := w) (by exact ST.out) (by intro H; exact OfZ_any 1 _ (by decide) (by decide)) ?_
  rintro e w5 ⟨⟨p5, v5, rfl, hv5, hb5⟩, H⟩
  obtain ⟨r5s, hs5⟩ : ∃ sgn, sgn = decide ((1 : Int) < 0) := ⟨_, rfl⟩
  rw [← hs5]
  have hi := And.intro hv5 hs5
  obtain ⟨r5t, r5a, r5n, rfl, rfl, -, -, -, -, -, -⟩ := hv5.form
  replace ST := Lib.hid ((H.call hb5).know hi)
  clear hi H hv5 hb5 hs5
  go_upto_region 7 with fail
  obtain ⟨W5, hW5⟩ : ∃ W, W = w5.alloc (.cells #[.int .u64 r5t, .slice r5a r5n r5n, .bool r5s] 74) := ⟨_, rfl⟩
  rw [← hW5]
  replace ST := ST.out.alloc (p := .int .u64 r5t) (v := .slice r5a r5n r5n) (b := r5s) (t := 74) (k := w5.heap.size) (by first | rfl | (simp; done) | (simp; omega))
  rw [← hW5] at ST
  clear hW5
  replace ST := Lib.hid ST
  obtain ⟨k10, hk⟩ : ∃ k, k = w5.heap.size := ⟨_, rfl⟩
  rw [← hk] at ST ⊢
  clear hk
  (first | clear q0 q1 q2 q3 q4 q5 q6 q7 q8 q9 q10 q11 | skip); obtain ⟨q0, q1, q2, q3, q4, q5, q6, q7, q8, q9, q10, q11⟩ := ST.out.rats (w.heap.size, .int .u64 0, .slice none 0 0, false, .int .u64 0, .slice none 0 0, false) (by with_reducible ((repeat ((fail_if_success exact mem0); apply List.mem_cons_of_mem)); exact mem0)); dsimp only at q0 q1 q2 q3 q4 q5 q6 q7 q8 q9 q10 q11
  obtain ⟨c0, c1, c2⟩ := ST.out.num (k := k10) (by with_reducible ((repeat ((fail_if_success exact mem0); apply List.mem_cons_of_mem)); exact mem0))
  obtain ⟨c3, c4, c5⟩ := ST.out.num (k := k9) (by with_reducible ((repeat ((fail_if_success exact mem0); apply List.mem_cons_of_mem)); exact mem0))
  go_region_with (first | (go_at_call 140; refine St.arm (w := w) (by ((with_reducible iterate 4 try first | apply St.drew | apply St.alloc | apply St.allocR | apply St.putR); ((with_reducible exact ST.out); all_goals (first | rfl | (simp; done) | (simp; omega))))) (by intro H; with_reducible exact less_run (x := (1 : Int)) (y := d) (H.int (by with_reducible ((repeat ((fail_if_success exact mem0); apply List.mem_cons_of_mem)); exact mem0))) (H.int (by with_reducible ((repeat ((fail_if_success exact mem0); apply List.mem_cons_of_mem)); exact mem0)))) ?_; rintro e w6 ⟨⟨rfl, hb6⟩, H⟩; replace ST := Lib.hid (H.call hb6); clear hb6 H; rw [HL.out]; (first | clear q0 q1 q2 q3 q4 q5 q6 q7 q8 q9 q10 q11 | skip); obtain ⟨q0, q1, q2, q3, q4, q5, q6, q7, q8, q9, q10, q11⟩ := ST.out.rats (w.heap.size, .int .u64 0, .slice none 0 0, false, .int .u64 0, .slice none 0 0, false) (by with_reducible ((repeat ((fail_if_success exact mem0); apply List.mem_cons_of_mem)); exact mem0)); dsimp only at q0 q1 q2 q3 q4 q5 q6 q7 q8 q9 q10 q11) | fail)
  all_goals
    go_wp2
    exact bodyPost_ret (v := .tuple #[.agg #[.int .u64 0, .slice none 0 0, .bool false, .int .u64 0, .slice none 0 0, .bool false], .bool false]) (by simp [results, Tryz.results79, go_sem, q0, q1, q2, q3, q4, q5]) rfl (((ST.out.know (p := .int .u64 0) (v := .slice none 0 0) (b := false) (x := 0) ⟨NatV.zero _, by decide⟩)).giveR (n := 0) (d := 0) (k := w.heap.size) (by with_reducible ((repeat ((fail_if_success exact mem0); apply List.mem_cons_of_mem)); exact mem0)) (by omega) (by with_reducible ((repeat ((fail_if_success exact mem0); apply List.mem_cons_of_mem)); exact mem0)) (by with_reducible ((repeat ((fail_if_success exact mem0); apply List.mem_cons_of_mem)); exact mem0))).rk
set_option maxHeartbeats 4000000 in
set_option maxRecDepth 100000 in
theorem parse_bad4 (X A B : ByteArray) (w : World) (h : X = A ++ ⟨#[47]⟩ ++ B) (ha : ¬ 47 ∈ A.data.toList) (hm : X.size ≤ 4611686018427387904) (n d : Int) (hn : A = tx n) (hd : dn n ≤ 1000) (hnd : B = tx d) (hdd : dn d ≤ 1000) (h1 : 1 < d) (h2 : 1 < (Int.gcd n d : Int)) : Calls Tryz.prog 79 #[.string X] w (GivesRk 0 0 false w) := by
  have hz : X.size = A.size + 1 + B.size := by rw [h, ByteArray.size_append, ByteArray.size_append]; rfl
  have CT := Lib.hid (fun w => cut_at X A B w h ha hm)
  have NT := Lib.hid (fun w => number_tx n w hd)
  rw [← hn] at NT
  have DT := Lib.hid (fun w => number_tx d w hdd)
  rw [← hnd] at DT
  have HL := Lib.hid (show decide ((1 : Int) < d) = true from decide_eq_true (by omega))
  obtain ⟨g, hg⟩ : ∃ g : Int, (Int.gcd n d : Int) = g := ⟨_, rfl⟩
  rw [hg] at h2
  have HG := Lib.hid (show decide ((1 : Int) < g) = true from decide_eq_true (by omega))
  have CG := Op2.gcd hg (Nat.le_trans (nl_112 (by omega) (by rw [dn_abs]; exact hd)) (by omega)) (Nat.le_trans (nl_112 (by omega) (by rw [dn_abs]; exact hdd)) (by omega))
  clear h ha hm hz hn hd hnd hdd hg h1 h2
  go_enter Tryz.func79, Tryz.ntmps79
  go_wp2_with fail
  obtain ⟨W0, hW0⟩ : ∃ W0, W0 = (w.alloc (.cells #[.int .u64 0, .slice none 0 0, .bool false, .int .u64 0, .slice none 0 0, .bool false] 76)) := ⟨_, rfl⟩
  have ST : St w W0 [(w.heap.size, .int .u64 0, .slice none 0 0, false, .int .u64 0, .slice none 0 0, false)] [] [] := by
    rw [hW0]
    exact (St.zero).allocR (k := w.heap.size) (t := 76) (by first | rfl | (simp; done) | (simp; omega))
  replace ST := Lib.hid ST
  rw [← hW0]
  clear hW0
  refine Calls.mono (CT.out _) ?_
  rintro e w1 ⟨rfl, hb1⟩
  replace ST := Lib.hid (ST.out.call hb1)
  clear hb1
  go_wp2_with fail
  refine Calls.mono (NT.out _) ?_
  rintro e w2 ⟨p2, v2, rfl, hv2, hb2⟩
  obtain ⟨r2s, hs2⟩ : ∃ sgn, sgn = decide (n < 0) := ⟨_, rfl⟩
  rw [← hs2]
  have hi := And.intro hv2 hs2
  obtain ⟨r2t, r2a, r2n, rfl, rfl, -, -, -, -, -, -⟩ := hv2.form
  replace ST := Lib.hid ((ST.out.call hb2).know hi)
  clear hi hv2 hb2 hs2
  go_upto_region 3 with fail
  obtain ⟨W2, hW2⟩ : ∃ W, W = w2.alloc (.cells #[.int .u64 r2t, .slice r2a r2n r2n, .bool r2s] 74) := ⟨_, rfl⟩
  rw [← hW2]
  replace ST := ST.out.alloc (p := .int .u64 r2t) (v := .slice r2a r2n r2n) (b := r2s) (t := 74) (k := w2.heap.size) (by first | rfl | (simp; done) | (simp; omega))
  rw [← hW2] at ST
  clear hW2
  replace ST := Lib.hid ST
  obtain ⟨k7, hk⟩ : ∃ k, k = w2.heap.size := ⟨_, rfl⟩
  rw [← hk] at ST ⊢
  clear hk
  go_wp2_with fail
  refine Calls.mono (DT.out _) ?_
  rintro e w4 ⟨p4, v4, rfl, hv4, hb4⟩
  obtain ⟨r4s, hs4⟩ : ∃ sgn, sgn = decide (d < 0) := ⟨_, rfl⟩
  rw [← hs4]
  have hi := And.intro hv4 hs4
  obtain ⟨r4t, r4a, r4n, rfl, rfl, -, -, -, -, -, -⟩ := hv4.form
  replace ST := Lib.hid ((ST.out.call hb4).know hi)
  clear hi hv4 hb4 hs4
  go_upto_region 6 with fail
  obtain ⟨W4, hW4⟩ : ∃ W, W = w4.alloc (.cells #[.int .u64 r4t, .slice r4a r4n r4n, .bool r4s] 74) := ⟨_, rfl⟩
  rw [← hW4]
  replace ST := ST.out.alloc (p := .int .u64 r4t) (v := .slice r4a r4n r4n) (b := r4s) (t := 74) (k := w4.heap.size) (by first | rfl | (simp; done) | (simp; omega))
  rw [← hW4] at ST
  clear hW4
  replace ST := Lib.hid ST
  obtain ⟨k9, hk⟩ : ∃ k, k = w4.heap.size := ⟨_, rfl⟩
  rw [← hk] at ST ⊢
  clear hk
  go_wp2_with fail
  refine St.arm (w := w) (by exact ST.out) (by intro H; exact OfZ_any 1 _ (by decide) (by decide)) ?_
  rintro e w5 ⟨⟨p5, v5, rfl, hv5, hb5⟩, H⟩
  obtain ⟨r5s, hs5⟩ : ∃ sgn, sgn = decide ((1 : Int) < 0) := ⟨_, rfl⟩
  rw [← hs5]
  have hi := And.intro hv5 hs5
  obtain ⟨r5t, r5a, r5n, rfl, rfl, -, -, -, -, -, -⟩ := hv5.form
  replace ST := Lib.hid ((H.call hb5).know hi)
  clear hi H hv5 hb5 hs5
  go_upto_region 7 with fail
  obtain ⟨W5, hW5⟩ : ∃ W, W = w5.alloc (.cells #[.int .u64 r5t, .slice r5a r5n r5n, .bool r5s] 74) := ⟨_, rfl⟩
  rw [← hW5]
  replace ST := ST.out.alloc (p := .int .u64 r5t) (v := .slice r5a r5n r5n) (b := r5s) (t := 74) (k := w5.heap.size) (by first | rfl | (simp; done) | (simp; omega))
  rw [← hW5] at ST
  clear hW5
  replace ST := Lib.hid ST
  obtain ⟨k10, hk⟩ : ∃ k, k = w5.heap.size := ⟨_, rfl⟩
  rw [← hk] at ST ⊢
  clear hk
  (first | clear q0 q1 q2 q3 q4 q5 q6 q7 q8 q9 q10 q11 | skip); obtain ⟨q0, q1, q2, q3, q4, q5, q6, q7, q8, q9, q10, q11⟩ := ST.out.rats (w.heap.size, .int .u64 0, .slice none 0 0, false, .int .u64 0, .slice none 0 0, false) (by with_reducible ((repeat ((fail_if_success exact mem0); apply List.mem_cons_of_mem)); exact mem0)); dsimp only at q0 q1 q2 q3 q4 q5 q6 q7 q8 q9 q10 q11
  go_region_held3 (fun W => (W.cell? ⟨k10, 0, none⟩ = some (.int .u64 r5t) ∧ W.cell? ⟨k10, 1, none⟩ = some (.slice r5a r5n r5n) ∧ W.cell? ⟨k10, 2, none⟩ = some (.bool r5s)) ∧ (W.cell? ⟨k7, 0, none⟩ = some (.int .u64 r2t) ∧ W.cell? ⟨k7, 1, none⟩ = some (.slice r2a r2n r2n) ∧ W.cell? ⟨k7, 2, none⟩ = some (.bool r2s)) ∧ (W.cell? ⟨k9, 0, none⟩ = some (.int .u64 r4t) ∧ W.cell? ⟨k9, 1, none⟩ = some (.slice r4a r4n r4n) ∧ W.cell? ⟨k9, 2, none⟩ = some (.bool r4s))) ((exact ⟨St.num (w := w) (by ((with_reducible iterate 4 try first | apply St.drew | apply St.alloc | apply St.allocR | apply St.putR); ((with_reducible exact ST.out); all_goals (first | rfl | (simp; done) | (simp; omega))))) (by with_reducible ((repeat ((fail_if_success exact mem0); apply List.mem_cons_of_mem)); exact mem0)), St.num (w := w) (by ((with_reducible iterate 4 try first | apply St.drew | apply St.alloc | apply St.allocR | apply St.putR); ((with_reducible exact ST.out); all_goals (first | rfl | (simp; done) | (simp; omega))))) (by with_reducible ((repeat ((fail_if_success exact mem0); apply List.mem_cons_of_mem)); exact mem0)), St.num (w := w) (by ((with_reducible iterate 4 try first | apply St.drew | apply St.alloc | apply St.allocR | apply St.putR); ((with_reducible exact ST.out); all_goals (first | rfl | (simp; done) | (simp; omega))))) (by with_reducible ((repeat ((fail_if_success exact mem0); apply List.mem_cons_of_mem)); exact mem0))⟩)) (first | (go_at_call 140; refine St.arm (w := w) (by ((with_reducible iterate 4 try first | apply St.drew | apply St.alloc | apply St.allocR | apply St.putR); ((with_reducible exact ST.out); all_goals (first | rfl | (simp; done) | (simp; omega))))) (by intro H; with_reducible exact less_run (x := (1 : Int)) (y := d) (H.int (by with_reducible ((repeat ((fail_if_success exact mem0); apply List.mem_cons_of_mem)); exact mem0))) (H.int (by with_reducible ((repeat ((fail_if_success exact mem0); apply List.mem_cons_of_mem)); exact mem0)))) ?_; rintro e w6 ⟨⟨rfl, hb6⟩, H⟩; replace ST := Lib.hid (H.call hb6); clear hb6 H; rw [HL.out]; (first | clear q0 q1 q2 q3 q4 q5 q6 q7 q8 q9 q10 q11 | skip); obtain ⟨q0, q1, q2, q3, q4, q5, q6, q7, q8, q9, q10, q11⟩ := ST.out.rats (w.heap.size, .int .u64 0, .slice none 0 0, false, .int .u64 0, .slice none 0 0, false) (by with_reducible ((repeat ((fail_if_success exact mem0); apply List.mem_cons_of_mem)); exact mem0)); dsimp only at q0 q1 q2 q3 q4 q5 q6 q7 q8 q9 q10 q11) | (go_at_call 141; refine St.arm (w := w) (by ((with_reducible iterate 4 try first | apply St.drew | apply St.alloc | apply St.allocR | apply St.putR); ((with_reducible exact ST.out); all_goals (first | rfl | (simp; done) | (simp; omega))))) (by intro H; with_reducible exact Op2.run CG (H.int (by with_reducible ((repeat ((fail_if_success exact mem0); apply List.mem_cons_of_mem)); exact mem0))) (H.int (by with_reducible ((repeat ((fail_if_success exact mem0); apply List.mem_cons_of_mem)); exact mem0)))) ?_; rintro e w7 ⟨⟨p7, v7, rfl, hv7, hb7⟩, H⟩; obtain ⟨r7s, hs7⟩ : ∃ sgn, sgn = decide (g < 0) := ⟨_, rfl⟩; rw [← hs7]; have hi := And.intro hv7 hs7; obtain ⟨r7t, r7a, r7n, rfl, rfl, -, -, -, -, -, -⟩ := hv7.form; replace ST := Lib.hid ((H.call hb7).know hi); clear hi H hv7 hb7 hs7; (first | clear q0 q1 q2 q3 q4 q5 q6 q7 q8 q9 q10 q11 | skip); obtain ⟨q0, q1, q2, q3, q4, q5, q6, q7, q8, q9, q10, q11⟩ := ST.out.rats (w.heap.size, .int .u64 0, .slice none 0 0, false, .int .u64 0, .slice none 0 0, false) (by with_reducible ((repeat ((fail_if_success exact mem0); apply List.mem_cons_of_mem)); exact mem0)); dsimp only at q0 q1 q2 q3 q4 q5 q6 q7 q8 q9 q10 q11) | (go_at_call 140; refine St.arm (w := w) (by ((with_reducible iterate 4 try first | apply St.drew | apply St.alloc | apply St.allocR | apply St.putR); ((with_reducible exact ST.out); all_goals (first | rfl | (simp; done) | (simp; omega))))) (by intro H; with_reducible exact less_run (x := (1 : Int)) (y := g) (H.int (by with_reducible ((repeat ((fail_if_success exact mem0); apply List.mem_cons_of_mem)); exact mem0))) (H.int (by with_reducible ((repeat ((fail_if_success exact mem0); apply List.mem_cons_of_mem)); exact mem0)))) ?_; rintro e w8 ⟨⟨rfl, hb8⟩, H⟩; replace ST := Lib.hid (H.call hb8); clear hb8 H; rw [HG.out]; (first | clear q0 q1 q2 q3 q4 q5 q6 q7 q8 q9 q10 q11 | skip); obtain ⟨q0, q1, q2, q3, q4, q5, q6, q7, q8, q9, q10, q11⟩ := ST.out.rats (w.heap.size, .int .u64 0, .slice none 0 0, false, .int .u64 0, .slice none 0 0, false) (by with_reducible ((repeat ((fail_if_success exact mem0); apply List.mem_cons_of_mem)); exact mem0)); dsimp only at q0 q1 q2 q3 q4 q5 q6 q7 q8 q9 q10 q11) | fail)
  all_goals
    go_wp2
    exact bodyPost_ret (v := .tuple #[.agg #[.int .u64 0, .slice none 0 0, .bool false, .int .u64 0, .slice none 0 0, .bool false], .bool false]) (by simp [results, Tryz.results79, go_sem, q0, q1, q2, q3, q4, q5]) rfl (((ST.out.know (p := .int .u64 0) (v := .slice none 0 0) (b := false) (x := 0) ⟨NatV.zero _, by decide⟩)).giveR (n := 0) (d := 0) (k := w.heap.size) (by with_reducible ((repeat ((fail_if_success exact mem0); apply List.mem_cons_of_mem)); exact mem0)) (by omega) (by with_reducible ((repeat ((fail_if_success exact mem0); apply List.mem_cons_of_mem)); exact mem0)) (by with_reducible ((repeat ((fail_if_success exact mem0); apply List.mem_cons_of_mem)); exact mem0))).rk
set_option maxHeartbeats 4000000 in
set_option maxRecDepth 100000 in
theorem parse_frac (X A B : ByteArray) (w : World) (h : X = A ++ ⟨#[47]⟩ ++ B) (ha : ¬ 47 ∈ A.data.toList) (hm : X.size ≤ 4611686018427387904) (n d : Int) (hn : A = tx n) (hd : dn n ≤ 1000) (hnd : B = tx d) (hdd : dn d ≤ 1000) (h1 : 1 < d) (h2 : (Int.gcd n d : Int) ≤ 1) : Calls Tryz.prog 79 #[.string X] w (GivesRk n d true w) := by
  have hz : X.size = A.size + 1 + B.size := by rw [h, ByteArray.size_append, ByteArray.size_append]; rfl
  have CT := Lib.hid (fun w => cut_at X A B w h ha hm)
  have NT := Lib.hid (fun w => number_tx n w hd)
  rw [← hn] at NT
  have DT := Lib.hid (fun w => number_tx d w hdd)
  rw [← hnd] at DT
  have HL := Lib.hid (show decide ((1 : Int) < d) = true from decide_eq_true (by omega))
  obtain ⟨g, hg⟩ : ∃ g : Int, (Int.gcd n d : Int) = g := ⟨_, rfl⟩
  rw [hg] at h2
  have HG := Lib.hid (show decide ((1 : Int) < g) = false from decide_eq_false (by omega))
  have CG := Op2.gcd hg (Nat.le_trans (nl_112 (by omega) (by rw [dn_abs]; exact hd)) (by omega)) (Nat.le_trans (nl_112 (by omega) (by rw [dn_abs]; exact hdd)) (by omega))
  clear h ha hm hz hn hd hnd hdd hg h1 h2
  go_enter Tryz.func79, Tryz.ntmps79
  go_wp2_with fail
  obtain ⟨W0, hW0⟩ : ∃ W0, W0 = (w.alloc (.cells #[.int .u64 0, .slice none 0 0, .bool false, .int .u64 0, .slice none 0 0, .bool false] 76)) := ⟨_, rfl⟩
  have ST : St w W0 [(w.heap.size, .int .u64 0, .slice none 0 0, false, .int .u64 0, .slice none 0 0, false)] [] [] := by
    rw [hW0]
    exact (St.zero).allocR (k := w.heap.size) (t := 76) (by first | rfl | (simp; done) | (simp; omega))
  replace ST := Lib.hid ST
  rw [← hW0]
  clear hW0
  refine Calls.mono (CT.out _) ?_
  rintro e w1 ⟨rfl, hb1⟩
  replace ST := Lib.hid (ST.out.call hb1)
  clear hb1
  go_wp2_with fail
  refine Calls.mono (NT.out _) ?_
  rintro e w2 ⟨p2, v2, rfl, hv2, hb2⟩
  obtain ⟨r2s, hs2⟩ : ∃ sgn, sgn = decide (n < 0) := ⟨_, rfl⟩
  rw [← hs2]
  have hi := And.intro hv2 hs2
  obtain ⟨r2t, r2a, r2n, rfl, rfl, -, -, -, -, -, -⟩ := hv2.form
  replace ST := Lib.hid ((ST.out.call hb2).know hi)
  clear hi hv2 hb2 hs2
  go_upto_region 3 with fail
  obtain ⟨W2, hW2⟩ : ∃ W, W = w2.alloc (.cells #[.int .u64 r2t, .slice r2a r2n r2n, .bool r2s] 74) := ⟨_, rfl⟩
  rw [← hW2]
  replace ST := ST.out.alloc (p := .int .u64 r2t) (v := .slice r2a r2n r2n) (b := r2s) (t := 74) (k := w2.heap.size) (by first | rfl | (simp; done) | (simp; omega))
  rw [← hW2] at ST
  clear hW2
  replace ST := Lib.hid ST
  obtain ⟨k7, hk⟩ : ∃ k, k = w2.heap.size := ⟨_, rfl⟩
  rw [← hk] at ST ⊢
  clear hk
  go_wp2_with fail
  refine Calls.mono (DT.out _) ?_
  rintro e w4 ⟨p4, v4, rfl, hv4, hb4⟩
  obtain ⟨r4s, hs4⟩ : ∃ sgn, sgn = decide (d < 0) := ⟨_, rfl⟩
  rw [← hs4]
  have hi := And.intro hv4 hs4
  obtain ⟨r4t, r4a, r4n, rfl, rfl, -, -, -, -, -, -⟩ := hv4.form
  replace ST := Lib.hid ((ST.out.call hb4).know hi)
  clear hi hv4 hb4 hs4
  go_upto_region 6 with fail
  obtain ⟨W4, hW4⟩ : ∃ W, W = w4.alloc (.cells #[.int .u64 r4t, .slice r4a r4n r4n, .bool r4s] 74) := ⟨_, rfl⟩
  rw [← hW4]
  replace ST := ST.out.alloc (p := .int .u64 r4t) (v := .slice r4a r4n r4n) (b := r4s) (t := 74) (k := w4.heap.size) (by first | rfl | (simp; done) | (simp; omega))
  rw [← hW4] at ST
  clear hW4
  replace ST := Lib.hid ST
  obtain ⟨k9, hk⟩ : ∃ k, k = w4.heap.size := ⟨_, rfl⟩
  rw [← hk] at ST ⊢
  clear hk
  go_wp2_with fail
  refine St.arm (w := w) (by exact ST.out) (by intro H; exact OfZ_any 1 _ (by decide) (by decide)) ?_
  rintro e w5 ⟨⟨p5, v5, rfl, hv5, hb5⟩, H⟩
  obtain ⟨r5s, hs5⟩ : ∃ sgn, sgn = decide ((1 : Int) < 0) := ⟨_, rfl⟩
  rw [← hs5]
  have hi := And.intro hv5 hs5
  obtain ⟨r5t, r5a, r5n, rfl, rfl, -, -, -, -, -, -⟩ := hv5.form
  replace ST := Lib.hid ((H.call hb5).know hi)
  clear hi H hv5 hb5 hs5
  go_upto_region 7 with fail
  obtain ⟨W5, hW5⟩ : ∃ W, W = w5.alloc (.cells #[.int .u64 r5t, .slice r5a r5n r5n, .bool r5s] 74) := ⟨_, rfl⟩
  rw [← hW5]
  replace ST := ST.out.alloc (p := .int .u64 r5t) (v := .slice r5a r5n r5n) (b := r5s) (t := 74) (k := w5.heap.size) (by first | rfl | (simp; done) | (simp; omega))
  rw [← hW5] at ST
  clear hW5
  replace ST := Lib.hid ST
  obtain ⟨k10, hk⟩ : ∃ k, k = w5.heap.size := ⟨_, rfl⟩
  rw [← hk] at ST ⊢
  clear hk
  (first | clear q0 q1 q2 q3 q4 q5 q6 q7 q8 q9 q10 q11 | skip); obtain ⟨q0, q1, q2, q3, q4, q5, q6, q7, q8, q9, q10, q11⟩ := ST.out.rats (w.heap.size, .int .u64 0, .slice none 0 0, false, .int .u64 0, .slice none 0 0, false) (by with_reducible ((repeat ((fail_if_success exact mem0); apply List.mem_cons_of_mem)); exact mem0)); dsimp only at q0 q1 q2 q3 q4 q5 q6 q7 q8 q9 q10 q11
  go_region_held3 (fun W => (W.cell? ⟨k10, 0, none⟩ = some (.int .u64 r5t) ∧ W.cell? ⟨k10, 1, none⟩ = some (.slice r5a r5n r5n) ∧ W.cell? ⟨k10, 2, none⟩ = some (.bool r5s)) ∧ (W.cell? ⟨k7, 0, none⟩ = some (.int .u64 r2t) ∧ W.cell? ⟨k7, 1, none⟩ = some (.slice r2a r2n r2n) ∧ W.cell? ⟨k7, 2, none⟩ = some (.bool r2s)) ∧ (W.cell? ⟨k9, 0, none⟩ = some (.int .u64 r4t) ∧ W.cell? ⟨k9, 1, none⟩ = some (.slice r4a r4n r4n) ∧ W.cell? ⟨k9, 2, none⟩ = some (.bool r4s))) ((exact ⟨St.num (w := w) (by ((with_reducible iterate 4 try first | apply St.drew | apply St.alloc | apply St.allocR | apply St.putR); ((with_reducible exact ST.out); all_goals (first | rfl | (simp; done) | (simp; omega))))) (by with_reducible ((repeat ((fail_if_success exact mem0); apply List.mem_cons_of_mem)); exact mem0)), St.num (w := w) (by ((with_reducible iterate 4 try first | apply St.drew | apply St.alloc | apply St.allocR | apply St.putR); ((with_reducible exact ST.out); all_goals (first | rfl | (simp; done) | (simp; omega))))) (by with_reducible ((repeat ((fail_if_success exact mem0); apply List.mem_cons_of_mem)); exact mem0)), St.num (w := w) (by ((with_reducible iterate 4 try first | apply St.drew | apply St.alloc | apply St.allocR | apply St.putR); ((with_reducible exact ST.out); all_goals (first | rfl | (simp; done) | (simp; omega))))) (by with_reducible ((repeat ((fail_if_success exact mem0); apply List.mem_cons_of_mem)); exact mem0))⟩)) (first | (go_at_call 140; refine St.arm (w := w) (by ((with_reducible iterate 4 try first | apply St.drew | apply St.alloc | apply St.allocR | apply St.putR); ((with_reducible exact ST.out); all_goals (first | rfl | (simp; done) | (simp; omega))))) (by intro H; with_reducible exact less_run (x := (1 : Int)) (y := d) (H.int (by with_reducible ((repeat ((fail_if_success exact mem0); apply List.mem_cons_of_mem)); exact mem0))) (H.int (by with_reducible ((repeat ((fail_if_success exact mem0); apply List.mem_cons_of_mem)); exact mem0)))) ?_; rintro e w6 ⟨⟨rfl, hb6⟩, H⟩; replace ST := Lib.hid (H.call hb6); clear hb6 H; rw [HL.out]; (first | clear q0 q1 q2 q3 q4 q5 q6 q7 q8 q9 q10 q11 | skip); obtain ⟨q0, q1, q2, q3, q4, q5, q6, q7, q8, q9, q10, q11⟩ := ST.out.rats (w.heap.size, .int .u64 0, .slice none 0 0, false, .int .u64 0, .slice none 0 0, false) (by with_reducible ((repeat ((fail_if_success exact mem0); apply List.mem_cons_of_mem)); exact mem0)); dsimp only at q0 q1 q2 q3 q4 q5 q6 q7 q8 q9 q10 q11) | (go_at_call 141; refine St.arm (w := w) (by ((with_reducible iterate 4 try first | apply St.drew | apply St.alloc | apply St.allocR | apply St.putR); ((with_reducible exact ST.out); all_goals (first | rfl | (simp; done) | (simp; omega))))) (by intro H; with_reducible exact Op2.run CG (H.int (by with_reducible ((repeat ((fail_if_success exact mem0); apply List.mem_cons_of_mem)); exact mem0))) (H.int (by with_reducible ((repeat ((fail_if_success exact mem0); apply List.mem_cons_of_mem)); exact mem0)))) ?_; rintro e w7 ⟨⟨p7, v7, rfl, hv7, hb7⟩, H⟩; obtain ⟨r7s, hs7⟩ : ∃ sgn, sgn = decide (g < 0) := ⟨_, rfl⟩; rw [← hs7]; have hi := And.intro hv7 hs7; obtain ⟨r7t, r7a, r7n, rfl, rfl, -, -, -, -, -, -⟩ := hv7.form; replace ST := Lib.hid ((H.call hb7).know hi); clear hi H hv7 hb7 hs7; (first | clear q0 q1 q2 q3 q4 q5 q6 q7 q8 q9 q10 q11 | skip); obtain ⟨q0, q1, q2, q3, q4, q5, q6, q7, q8, q9, q10, q11⟩ := ST.out.rats (w.heap.size, .int .u64 0, .slice none 0 0, false, .int .u64 0, .slice none 0 0, false) (by with_reducible ((repeat ((fail_if_success exact mem0); apply List.mem_cons_of_mem)); exact mem0)); dsimp only at q0 q1 q2 q3 q4 q5 q6 q7 q8 q9 q10 q11) | (go_at_call 140; refine St.arm (w := w) (by ((with_reducible iterate 4 try first | apply St.drew | apply St.alloc | apply St.allocR | apply St.putR); ((with_reducible exact ST.out); all_goals (first | rfl | (simp; done) | (simp; omega))))) (by intro H; with_reducible exact less_run (x := (1 : Int)) (y := g) (H.int (by with_reducible ((repeat ((fail_if_success exact mem0); apply List.mem_cons_of_mem)); exact mem0))) (H.int (by with_reducible ((repeat ((fail_if_success exact mem0); apply List.mem_cons_of_mem)); exact mem0)))) ?_; rintro e w8 ⟨⟨rfl, hb8⟩, H⟩; replace ST := Lib.hid (H.call hb8); clear hb8 H; rw [HG.out]; (first | clear q0 q1 q2 q3 q4 q5 q6 q7 q8 q9 q10 q11 | skip); obtain ⟨q0, q1, q2, q3, q4, q5, q6, q7, q8, q9, q10, q11⟩ := ST.out.rats (w.heap.size, .int .u64 0, .slice none 0 0, false, .int .u64 0, .slice none 0 0, false) (by with_reducible ((repeat ((fail_if_success exact mem0); apply List.mem_cons_of_mem)); exact mem0)); dsimp only at q0 q1 q2 q3 q4 q5 q6 q7 q8 q9 q10 q11) | fail)
  all_goals
    obtain ⟨c0, c1, c2⟩ := ST.out.num (k := k7) (by with_reducible ((repeat ((fail_if_success exact mem0); apply List.mem_cons_of_mem)); exact mem0))
    obtain ⟨d0, d1, d2⟩ := ST.out.num (k := k9) (by with_reducible ((repeat ((fail_if_success exact mem0); apply List.mem_cons_of_mem)); exact mem0))
    go_wp2
    exact bodyPost_ret (v := .tuple #[.agg #[.int .u64 r2t, .slice r2a r2n r2n, .bool r2s, .int .u64 r4t, .slice r4a r4n r4n, .bool r4s], .bool true]) (by simp [results, Tryz.results79, go_sem, q0, q1, q2, q3, q4, q5]) rfl (ST.out.giveR (k := w.heap.size) (by with_reducible ((repeat ((fail_if_success exact mem0); apply List.mem_cons_of_mem)); exact mem0)) (by omega) (by with_reducible ((repeat ((fail_if_success exact mem0); apply List.mem_cons_of_mem)); exact mem0)) (by with_reducible ((repeat ((fail_if_success exact mem0); apply List.mem_cons_of_mem)); exact mem0))).rk
end Go.Proofs.YtkhebidmfjbhaaaGreatDoor
