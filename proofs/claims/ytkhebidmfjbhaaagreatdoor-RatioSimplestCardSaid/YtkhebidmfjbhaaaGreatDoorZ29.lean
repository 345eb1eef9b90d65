/-
  What parse returns.
  What parse returns where no denominator stands behind the slash.
-/
import Derived.Test.YtkhebidmfjbhaaaGreatDoorZ28
import Derived.Deep.RegionHeld3
import Derived.Deep.Cut
import Derived.BigQuiet
namespace Go.Proofs.YtkhebidmfjbhaaaGreatDoor
open Go.RowKit

/-- The call hands back n / d and whether it is one. -/
def GivesRk (n d : Int) (ok : Bool) (w : World) (e : Ending) (w' : World) : Prop := ∃ p v q u, e = .returned (.tuple #[.agg #[p, v, .bool (decide (n < 0)), q, u, .bool (decide (d < 0))], .bool ok]) ∧ NatV w' p v n.natAbs ∧ NatV w' q u d.natAbs ∧ Below w.heap.size w w'
theorem GivesR.rk {n d : Int} {ok : Bool} {w w' : World} {p v q u : Value} {b c : Bool} (h : GivesR n d w (.returned (.agg #[p, v, .bool b, q, u, .bool c])) w') : GivesRk n d ok w (.returned (.tuple #[.agg #[p, v, .bool b, q, u, .bool c], .bool ok])) w' := by
  obtain ⟨p', v', q', u', e, h1, h2, h3⟩ := h
  injection e with e
  rw [e]
  exact ⟨p', v', q', u', rfl, h1, h2, h3⟩

theorem no47 (z : Int) : ¬ 47 ∈ (tx z).data.toList := by
  rw [tx_list]
  intro h
  have hd := digs_itoa z
  have h1 : 47 ∈ Lib.decDigits z.natAbs := by
    rw [← hd]
    unfold digs
    split
    · rename_i h2
      cases hl : Lib.itoa z with
      | nil => rw [hl] at h; cases h
      | cons c r =>
        rw [hl] at h h2
        injection h2 with h2
        rcases List.mem_cons.mp h with h3 | h3
        · rw [← h3] at h2; exact absurd h2 (by decide)
        · exact h3
    · exact h
  have := dec_all _ _ h1
  exact absurd this (by decide)
set_option maxHeartbeats 4000000 in
set_option maxRecDepth 100000 in
theorem parse_int (z : Int) (w : World) (hz : dn z ≤ 1000) : Calls Tryz.prog 79 #[.string (tx z)] w (GivesRk z 1 true w) := by
  have CT := Lib.hid (fun w => cut_no (tx z) w (no47 z))
  have NT := Lib.hid (fun w => number_tx z w hz)
  obtain ⟨X, hX⟩ : ∃ X, X = tx z := ⟨_, rfl⟩
  rw [← hX] at CT NT ⊢
  clear hX hz
  go_enter Tryz.func79, Tryz.ntmps79
  go_wp2_with fail
  obtain ⟨W0, hW0⟩ : ∃ W0, W0 = (w.alloc (.cells #[.int .u64 0, .slice none 0 0, .bool false, .int .u64 0, .slice none 0 0, .bool false] 76)) := ⟨_, rfl⟩
  have ST : St w W0 [(w.heap.size, .int .u64 0, .slice none 0 0, false, .int .u64 0, .slice none 0 0, false)] [] [] := by
    rw [hW0]
    exact (St.zero).allocR (k := w.heap.size) (t := 76) (by first | rfl | (simp; done) | (simp; omega))
  replace ST := Lib.hid ST
  rw [← hW0]
  clear hW0
  refine Calls.mono (CT.out _) ?_
  rintro e w1 ⟨rfl, hb1⟩
  replace ST := Lib.hid (ST.out.call hb1)
  clear hb1
  go_wp2_with fail
  refine Calls.mono (NT.out _) ?_
  rintro e w2 ⟨p2, v2, rfl, hv2, hb2⟩
  obtain ⟨r2s, hs2⟩ : ∃ sgn, sgn = decide (z < 0) := ⟨_, rfl⟩
  rw [← hs2]
  have hi := And.intro hv2 hs2
  obtain ⟨r2t, r2a, r2n, rfl, rfl, -, -, -, -, -, -⟩ := hv2.form
  replace ST := Lib.hid ((ST.out.call hb2).know hi)
  clear hi hv2 hb2 hs2
  go_upto_region 3 with fail
  obtain ⟨W2, hW2⟩ : ∃ W, W = w2.alloc (.cells #[.int .u64 r2t, .slice r2a r2n r2n, .bool r2s] 74) := ⟨_, rfl⟩
  rw [← hW2]
  replace ST := ST.out.alloc (p := .int .u64 r2t) (v := .slice r2a r2n r2n) (b := r2s) (t := 74) (k := w2.heap.size) (by first | rfl | (simp; done) | (simp; omega))
  rw [← hW2] at ST
  clear hW2
  replace ST := Lib.hid ST
  obtain ⟨k7, hk⟩ : ∃ k, k = w2.heap.size := ⟨_, rfl⟩
  rw [← hk] at ST ⊢
  clear hk
  obtain ⟨c0, c1, c2⟩ := ST.out.num (k := k7) (by with_reducible ((repeat ((fail_if_success exact mem0); apply List.mem_cons_of_mem)); exact mem0))
  go_wp2_with fail
  refine St.arm (w := w) (by exact ST.out) (by intro H; exact fromWhole_any _ _ _ _ _ (H.int (by with_reducible ((repeat ((fail_if_success exact mem0); apply List.mem_cons_of_mem)); exact mem0)))) ?_
  rintro e w3 ⟨⟨p3, v3, o3, u3, rfl, hv3, hu3, hb3⟩, H⟩
  obtain ⟨r3s, hs3⟩ : ∃ sgn, sgn = decide (z < 0) := ⟨_, rfl⟩
  obtain ⟨q3s, ht3⟩ : ∃ sgn, sgn = decide ((1 : Int) < 0) := ⟨_, rfl⟩
  rw [← hs3, ← ht3]
  have hi := And.intro hv3 hs3
  have hj := And.intro hu3 ht3
  obtain ⟨r3t, r3a, r3n, rfl, rfl, -, -, -, -, -, -⟩ := hv3.form
  obtain ⟨q3t, q3a, q3n, rfl, rfl, -, -, -, -, -, -⟩ := hu3.form
  replace ST := Lib.hid (((H.call hb3).know hj).know hi)
  clear hi hj H hv3 hu3 hb3 hs3 ht3
  (first | clear q0 q1 q2 q3 q4 q5 q6 q7 q8 q9 q10 q11 | skip); obtain ⟨q0, q1, q2, q3, q4, q5, q6, q7, q8, q9, q10, q11⟩ := ST.out.rats (w.heap.size, .int .u64 0, .slice none 0 0, false, .int .u64 0, .slice none 0 0, false) (by with_reducible ((repeat ((fail_if_success exact mem0); apply List.mem_cons_of_mem)); exact mem0)); dsimp only at q0 q1 q2 q3 q4 q5 q6 q7 q8 q9 q10 q11
  go_wp2
  exact bodyPost_ret (v := .tuple #[.agg #[.int .u64 r3t, .slice r3a r3n r3n, .bool r3s, .int .u64 q3t, .slice q3a q3n q3n, .bool q3s], .bool true]) (by simp [results, Tryz.results79, go_sem, q0, q1, q2, q3, q4, q5]) rfl (ST.out.giveR (k := w.heap.size) (by with_reducible ((repeat ((fail_if_success exact mem0); apply List.mem_cons_of_mem)); exact mem0)) (by omega) (by with_reducible ((repeat ((fail_if_success exact mem0); apply List.mem_cons_of_mem)); exact mem0)) (by with_reducible ((repeat ((fail_if_success exact mem0); apply List.mem_cons_of_mem)); exact mem0))).rk
set_option maxHeartbeats 4000000 in
set_option maxRecDepth 100000 in
theorem parse_bad0 (X : ByteArray) (w : World) (h : ¬ 47 ∈ X.data.toList) (hm : X.size ≤ 4611686018427387904) (hx : isT X.data.toList = false) : Calls Tryz.prog 79 #[.string X] w (GivesRk 0 1 false w) := by
  have CT := Lib.hid (fun w => cut_no X w h)
  have NT := Lib.hid (fun w => number_no X w (by omega) hx)
  clear h hm hx
  go_enter Tryz.func79, Tryz.ntmps79
  go_wp2_with fail
  obtain ⟨W0, hW0⟩ : ∃ W0, W0 = (w.alloc (.cells #[.int .u64 0, .slice none 0 0, .bool false, .int .u64 0, .slice none 0 0, .bool false] 76)) := ⟨_, rfl⟩
  have ST : St w W0 [(w.heap.size, .int .u64 0, .slice none 0 0, false, .int .u64 0, .slice none 0 0, false)] [] [] := by
    rw [hW0]
    exact (St.zero).allocR (k := w.heap.size) (t := 76) (by first | rfl | (simp; done) | (simp; omega))
  replace ST := Lib.hid ST
  rw [← hW0]
  clear hW0
  refine Calls.mono (CT.out _) ?_
  rintro e w1 ⟨rfl, hb1⟩
  replace ST := Lib.hid (ST.out.call hb1)
  clear hb1
  go_wp2_with fail
  refine Calls.mono (NT.out _) ?_
  rintro e w2 ⟨rfl, hb2⟩
  replace ST := Lib.hid ((ST.out.call hb2).know ⟨NatV.zero _, (show false = decide ((0 : Int) < 0) by decide)⟩)
  clear hb2
  go_upto_region 3 with fail
  obtain ⟨W2, hW2⟩ : ∃ W, W = w2.alloc (.cells #[.int .u64 0, .slice none 0 0, .bool false] 74) := ⟨_, rfl⟩
  rw [← hW2]
  replace ST := ST.out.alloc (p := .int .u64 0) (v := .slice none 0 0) (b := false) (t := 74) (k := w2.heap.size) (by first | rfl | (simp; done) | (simp; omega))
  rw [← hW2] at ST
  clear hW2
  replace ST := Lib.hid ST
  obtain ⟨k7, hk⟩ : ∃ k, k = w2.heap.size := ⟨_, rfl⟩
  rw [← hk] at ST ⊢
  clear hk
  obtain ⟨c0, c1, c2⟩ := ST.out.num (k := k7) (by with_reducible ((repeat ((fail_if_success exact mem0); apply List.mem_cons_of_mem)); exact mem0))
  go_wp2_with fail
  refine St.arm (w := w) (by exact ST.out) (by intro H; exact fromWhole_any _ _ _ _ _ (H.int (x := 0) (by with_reducible ((repeat ((fail_if_success exact mem0); apply List.mem_cons_of_mem)); exact mem0)))) ?_
  rintro e w3 ⟨⟨p3, v3, o3, u3, rfl, hv3, hu3, hb3⟩, H⟩
  obtain ⟨r3s, hs3⟩ : ∃ sgn, sgn = decide ((0 : Int) < 0) := ⟨_, rfl⟩
  obtain ⟨q3s, ht3⟩ : ∃ sgn, sgn = decide ((1 : Int) < 0) := ⟨_, rfl⟩
  rw [← hs3, ← ht3]
  have hi := And.intro hv3 hs3
  have hj := And.intro hu3 ht3
  obtain ⟨r3t, r3a, r3n, rfl, rfl, -, -, -, -, -, -⟩ := hv3.form
  obtain ⟨q3t, q3a, q3n, rfl, rfl, -, -, -, -, -, -⟩ := hu3.form
  replace ST := Lib.hid (((H.call hb3).know hj).know hi)
  clear hi hj H hv3 hu3 hb3 hs3 ht3
  (first | clear q0 q1 q2 q3 q4 q5 q6 q7 q8 q9 q10 q11 | skip); obtain ⟨q0, q1, q2, q3, q4, q5, q6, q7, q8, q9, q10, q11⟩ := ST.out.rats (w.heap.size, .int .u64 0, .slice none 0 0, false, .int .u64 0, .slice none 0 0, false) (by with_reducible ((repeat ((fail_if_success exact mem0); apply List.mem_cons_of_mem)); exact mem0)); dsimp only at q0 q1 q2 q3 q4 q5 q6 q7 q8 q9 q10 q11
  go_wp2
  exact bodyPost_ret (v := .tuple #[.agg #[.int .u64 r3t, .slice r3a r3n r3n, .bool r3s, .int .u64 q3t, .slice q3a q3n q3n, .bool q3s], .bool false]) (by simp [results, Tryz.results79, go_sem, q0, q1, q2, q3, q4, q5]) rfl (ST.out.giveR (k := w.heap.size) (by with_reducible ((repeat ((fail_if_success exact mem0); apply List.mem_cons_of_mem)); exact mem0)) (by omega) (by with_reducible ((repeat ((fail_if_success exact mem0); apply List.mem_cons_of_mem)); exact mem0)) (by with_reducible ((repeat ((fail_if_success exact mem0); apply List.mem_cons_of_mem)); exact mem0))).rk
set_option maxHeartbeats 4000000 in
set_option maxRecDepth 100000 in
theorem parse_bad1 (X A B : ByteArray) (w : World) (h : X = A ++ ⟨#[47]⟩ ++ B) (ha : ¬ 47 ∈ A.data.toList) (hm : X.size ≤ 4611686018427387904) (hx : isT A.data.toList = false) : Calls Tryz.prog 79 #[.string X] w (GivesRk 0 1 false w) := by
  have hz : X.size = A.size + 1 + B.size := by rw [h, ByteArray.size_append, ByteArray.size_append]; rfl
  have CT := Lib.hid (fun w => cut_at X A B w h ha hm)
  have NT := Lib.hid (fun w => number_no A w (by omega) hx)
  clear h ha hm hx hz
  go_enter Tryz.func79, Tryz.ntmps79
  go_wp2_with fail
  obtain ⟨W0, hW0⟩ : ∃ W0, W0 = (w.alloc (.cells #[.int .u64 0, .slice none 0 0, .bool false, .int .u64 0, .slice none 0 0, .bool false] 76)) := ⟨_, rfl⟩
  have ST : St w W0 [(w.heap.size, .int .u64 0, .slice none 0 0, false, .int .u64 0, .slice none 0 0, false)] [] [] := by
    rw [hW0]
    exact (St.zero).allocR (k := w.heap.size) (t := 76) (by first | rfl | (simp; done) | (simp; omega))
  replace ST := Lib.hid ST
  rw [← hW0]
  clear hW0
  refine Calls.mono (CT.out _) ?_
  rintro e w1 ⟨rfl, hb1⟩
  replace ST := Lib.hid (ST.out.call hb1)
  clear hb1
  go_wp2_with fail
  refine Calls.mono (NT.out _) ?_
  rintro e w2 ⟨rfl, hb2⟩
  replace ST := Lib.hid ((ST.out.call hb2).know ⟨NatV.zero _, (show false = decide ((0 : Int) < 0) by decide)⟩)
  clear hb2
  go_upto_region 3 with fail
  obtain ⟨W2, hW2⟩ : ∃ W, W = w2.alloc (.cells #[.int .u64 0, .slice none 0 0, .bool false] 74) := ⟨_, rfl⟩
  rw [← hW2]
  replace ST := ST.out.alloc (p := .int .u64 0) (v := .slice none 0 0) (b := false) (t := 74) (k := w2.heap.size) (by first | rfl | (simp; done) | (simp; omega))
  rw [← hW2] at ST
  clear hW2
  replace ST := Lib.hid ST
  obtain ⟨k7, hk⟩ : ∃ k, k = w2.heap.size := ⟨_, rfl⟩
  rw [← hk] at ST ⊢
  clear hk
  obtain ⟨c0, c1, c2⟩ := ST.out.num (k := k7) (by with_reducible ((repeat ((fail_if_success exact mem0); apply List.mem_cons_of_mem)); exact mem0))
  go_wp2_with fail
  refine St.arm (w := w) (by exact ST.out) (by intro H; exact fromWhole_any _ _ _ _ _ (H.int (x := 0) (by with_reducible ((repeat ((fail_if_success exact mem0); apply List.mem_cons_of_mem)); exact mem0)))) ?_
  rintro e w3 ⟨⟨p3, v3, o3, u3, rfl, hv3, hu3, hb3⟩, H⟩
  obtain ⟨r3s, hs3⟩ : ∃ sgn, sgn = decide ((0 : Int) < 0) := ⟨_, rfl⟩
  obtain ⟨q3s, ht3⟩ : ∃ sgn, sgn = decide ((1 : Int) < 0) := ⟨_, rfl⟩
  rw [← hs3, ← ht3]
  have hi := And.intro hv3 hs3
  have hj := And.intro hu3 ht3
  obtain ⟨r3t, r3a, r3n, rfl, rfl, -, -, -, -, -, -⟩ := hv3.form
  obtain ⟨q3t, q3a, q3n, rfl, rfl, -, -, -, -, -, -⟩ := hu3.form
  replace ST := Lib.hid (((H.call hb3).know hj).know hi)
  clear hi hj H hv3 hu3 hb3 hs3 ht3
  (first | clear q0 q1 q2 q3 q4 q5 q6 q7 q8 q9 q10 q11 | skip); obtain ⟨q0, q1, q2, q3, q4, q5, q6, q7, q8, q9, q10, q11⟩ := ST.out.rats (w.heap.size, .int .u64 0, .slice none 0 0, false, .int .u64 0, .slice none 0 0, false) (by with_reducible ((repeat ((fail_if_success exact mem0); apply List.mem_cons_of_mem)); exact mem0)); dsimp only at q0 q1 q2 q3 q4 q5 q6 q7 q8 q9 q10 q11
  go_wp2
  exact bodyPost_ret (v := .tuple #[.agg #[.int .u64 r3t, .slice r3a r3n r3n, .bool r3s, .int .u64 q3t, .slice q3a q3n q3n, .bool q3s], .bool false]) (by simp [results, Tryz.results79, go_sem, q0, q1, q2, q3, q4, q5]) rfl (ST.out.giveR (k := w.heap.size) (by with_reducible ((repeat ((fail_if_success exact mem0); apply List.mem_cons_of_mem)); exact mem0)) (by omega) (by with_reducible ((repeat ((fail_if_success exact mem0); apply List.mem_cons_of_mem)); exact mem0)) (by with_reducible ((repeat ((fail_if_success exact mem0); apply List.mem_cons_of_mem)); exact mem0))).rk
end Go.Proofs.YtkhebidmfjbhaaaGreatDoor
namespace Go.Proofs.YtkhebidmfjbhaaaGreatDoor
open Go.RowKit

set_option maxHeartbeats 4000000 in
set_option maxRecDepth 100000 in
theorem parse_bad2 (X A B : ByteArray) (w : World) (h : X = A ++ ⟨#[47]⟩ ++ B) (ha : ¬ 47 ∈ A.data.toList) (hm : X.size ≤ 4611686018427387904) (n : Int) (hn : A = tx n) (hd : dn n ≤ 1000) (hx : isT B.data.toList = false) : Calls Tryz.prog 79 #[.string X] w (GivesRk 0 0 false w) := by
  have hz : X.size = A.size + 1 + B.size := by rw [h, ByteArray.size_append, ByteArray.size_append]; rfl
  have CT := Lib.hid (fun w => cut_at X A B w h ha hm)
  have NT := Lib.hid (fun w => number_tx n w hd)
  rw [← hn] at NT
  have DT := Lib.hid (fun w => number_no B w (by omega) hx)
  clear h ha hm hx hz hn hd
  go_enter Tryz.func79, Tryz.ntmps79
  go_wp2_with fail
  obtain ⟨W0, hW0⟩ : ∃ W0, W0 = (w.alloc (.cells #[.int .u64 0, .slice none 0 0, .bool false, .int .u64 0, .slice none 0 0, .bool false] 76)) := ⟨_, rfl⟩
  have ST : St w W0 [(w.heap.size, .int .u64 0, .slice none 0 0, false, .int .u64 0, .slice none 0 0, false)] [] [] := by
    rw [hW0]
    exact (St.zero).allocR (k := w.heap.size) (t := 76) (by first | rfl | (simp; done) | (simp; omega))
  replace ST := Lib.hid ST
  rw [← hW0]
  clear hW0
  refine Calls.mono (CT.out _) ?_
  rintro e w1 ⟨rfl, hb1⟩
  replace ST := Lib.hid (ST.out.call hb1)
  clear hb1
  go_wp2_with fail
  refine Calls.mono (NT.out _) ?_
  rintro e w2 ⟨p2, v2, rfl, hv2, hb2⟩
  obtain ⟨r2s, hs2⟩ : ∃ sgn, sgn = decide (n < 0) := ⟨_, rfl⟩
  rw [← hs2]
  have hi := And.intro hv2 hs2
  obtain ⟨r2t, r2a, r2n, rfl, rfl, -, -, -, -, -, -⟩ := hv2.form
  replace ST := Lib.hid ((ST.out.call hb2).know hi)
  clear hi hv2 hb2 hs2
  go_upto_region 3 with fail
  obtain ⟨W2, hW2⟩ : ∃ W, W = w2.alloc (.cells #[.int .u64 r2t, .slice r2a r2n r2n, .bool r2s] 74) := ⟨_, rfl⟩
  rw [← hW2]
  replace ST := ST.out.alloc (p := .int .u64 r2t) (v := .slice r2a r2n r2n) (b := r2s) (t := 74) (k := w2.heap.size) (by first | rfl | (simp; done) | (simp; omega))
  rw [← hW2] at ST
  clear hW2
  replace ST := Lib.hid ST
  obtain ⟨k7, hk⟩ : ∃ k, k = w2.heap.size := ⟨_, rfl⟩
  rw [← hk] at ST ⊢
  clear hk
  go_wp2_with fail
  refine Calls.mono (DT.out _) ?_
  rintro e w4 ⟨rfl, hb4⟩
  replace ST := Lib.hid ((ST.out.call hb4).know ⟨NatV.zero _, (show false = decide ((0 : Int) < 0) by decide)⟩)
  clear hb4
  go_upto_region 6 with fail
  obtain ⟨W4, hW4⟩ : ∃ W, W = w4.alloc (.cells #[.int .u64 0, .slice none 0 0, .bool false] 74) := ⟨_, rfl⟩
  rw [← hW4]
  replace ST := ST.out.alloc (p := .int .u64 0) (v := .slice none 0 0) (b := false) (t := 74) (k := w4.heap.size) (by first | rfl | (simp; done) | (simp; omega))
  rw [← hW4] at ST
  clear hW4
  replace ST := Lib.hid ST
  obtain ⟨k9, hk⟩ : ∃ k, k = w4.heap.size := ⟨_, rfl⟩
  rw [← hk] at ST ⊢
  clear hk
  go_wp2_with fail
  refine St.arm (w := w) (by exact ST.out) (by intro H; exact OfZ_any 1 _ (by decide) (by decide)) ?_
  rintro e w5 ⟨⟨p5, v5, rfl, hv5, hb5⟩, H⟩
  obtain ⟨r5s, hs5⟩ : ∃ sgn, sgn = decide ((1 : Int) < 0) := ⟨_, rfl⟩
  rw [← hs5]
  have hi := And.intro hv5 hs5
  obtain ⟨r5t, r5a, r5n, rfl, rfl, -, -, -, -, -, -⟩ := hv5.form
  replace ST := Lib.hid ((H.call hb5).know hi)
  clear hi H hv5 hb5 hs5
  go_upto_region 7 with fail
  obtain ⟨W5, hW5⟩ : ∃ W, W = w5.alloc (.cells #[.int .u64 r5t, .slice r5a r5n r5n, .bool r5s] 74) := ⟨_, rfl⟩
  rw [← hW5]
  replace ST := ST.out.alloc (p := .int .u64 r5t) (v := .slice r5a r5n r5n) (b := r5s) (t := 74) (k := w5.heap.size) (by first | rfl | (simp; done) | (simp; omega))
  rw [← hW5] at ST
  clear hW5
  replace ST := Lib.hid ST
  obtain ⟨k10, hk⟩ : ∃ k, k = w5.heap.size := ⟨_, rfl⟩
  rw [← hk] at ST ⊢
  clear hk
  (first | clear q0 q1 q2 q3 q4 q5 q6 q7 q8 q9 q10 q11 | skip); obtain ⟨q0, q1, q2, q3, q4, q5, q6, q7, q8, q9, q10, q11⟩ := ST.out.rats (w.heap.size, .int .u64 0, .slice none 0 0, false, .int .u64 0, .slice none 0 0, false) (by with_reducible ((repeat ((fail_if_success exact mem0); apply List.mem_cons_of_mem)); exact mem0)); dsimp only at q0 q1 q2 q3 q4 q5 q6 q7 q8 q9 q10 q11
  go_quiet (fail)
  go_wp2
  exact bodyPost_ret (v := .tuple #[.agg #[.int .u64 0, .slice none 0 0, .bool false, .int .u64 0, .slice none 0 0, .bool false], .bool false]) (by simp [results, Tryz.results79, go_sem, q0, q1, q2, q3, q4, q5]) rfl ((ST.out.call (below_drewN (Below.refl _ _) nq)).giveR (n := 0) (d := 0) (k := w.heap.size) (by with_reducible ((repeat ((fail_if_success exact mem0); apply List.mem_cons_of_mem)); exact mem0)) (by omega) (by with_reducible ((repeat ((fail_if_success exact mem0); apply List.mem_cons_of_mem)); exact mem0)) (by with_reducible ((repeat ((fail_if_success exact mem0); apply List.mem_cons_of_mem)); exact mem0))).rk
end Go.Proofs.YtkhebidmfjbhaaaGreatDoor
