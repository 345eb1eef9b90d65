/-
  Which texts are rational numbers, and what parse returns for each text.
  What both returns: two numbers read, and whether both can be read.
  What both returns for two rational numbers.
  How many digits sums and products of rational numbers have.
  What parseEnd, Valid, End and split return.
  What Num, Den, Sign, Neg, Abs, Floor and Of return.
-/
import Derived.Test.YtkhebidmfjbhaaaGreatDoorZ30
import Derived.BigRegion
import Derived.Deep.RegionHeld3
import Derived.Deep.Cut
import Derived.Test.YtkhebidmfjbhaaaGreatDoorZ13
namespace Go.Proofs.YtkhebidmfjbhaaaGreatDoor
open Go.RowKit

/-- At most k digits above and below. -/
def Sm (k : Nat) (a : Rat) : Prop := dn a.num ≤ k ∧ dn a.den ≤ k
/-- No text of a rational number of at most 1000 digits above and below. -/
def NoQ (s : ByteArray) : Prop := ∀ q : Rat, Sm 1000 q → s ≠ qx q
theorem cut_or (s : ByteArray) : ¬ 47 ∈ s.data.toList ∨ ∃ A B : ByteArray, s = A ++ ⟨#[47]⟩ ++ B ∧ ¬ 47 ∈ A.data.toList := by
  by_cases h : 47 ∈ s.data.toList
  · obtain ⟨a, b, e, ha⟩ := List.eq_append_cons_of_mem h
    refine .inr ⟨⟨a.toArray⟩, ⟨b.toArray⟩, ba_ext ?_, by simpa using ha⟩
    rw [ba_mid, e]
  · exact .inl h
theorem qx_int (z : Int) : qx (z : Rat) = tx z := by
  unfold qx
  rw [if_pos (by simp)]
  simp
theorem dn_one : dn 1 = 1 := by unfold dn; exact Lib.nDigits_small (by decide)
theorem sm_int {z : Int} {k : Nat} (hk : 1 ≤ k) : Sm k (z : Rat) ↔ dn z ≤ k := by
  unfold Sm
  rw [Rat.num_intCast, Rat.den_intCast]
  show dn z ≤ k ∧ dn 1 ≤ k ↔ _
  rw [dn_one]
  exact ⟨fun h => h.1, fun h => ⟨h, hk⟩⟩
theorem qx_frac {a : Rat} (h : a.den ≠ 1) : qx a = tx a.num ++ ⟨#[47]⟩ ++ tx a.den := by
  unfold qx; rw [if_neg h]
theorem tx47_inj {a b : Int} {s t : ByteArray} (h : tx a ++ ⟨#[47]⟩ ++ s = tx b ++ ⟨#[47]⟩ ++ t) : a = b ∧ s = t := by
  have e := congrArg (fun x : ByteArray => x.data.toList) h
  rw [ba_mid, ba_mid] at e
  have key : ∀ (x y r u : List UInt8), ¬ 47 ∈ x → ¬ 47 ∈ y → x ++ 47 :: r = y ++ 47 :: u → x = y ∧ r = u := by
    intro x
    induction x with
    | nil =>
      intro y r u _ hy e
      cases y with
      | nil => injection e with _ e; exact ⟨rfl, e⟩
      | cons c y => injection e with e _; exact absurd (e ▸ List.mem_cons_self) hy
    | cons c x ih =>
      intro y r u hx hy e
      cases y with
      | nil => injection e with e _; exact absurd (e ▸ List.mem_cons_self) hx
      | cons d y =>
        injection e with e1 e2
        obtain ⟨e3, e4⟩ := ih y r u (fun h => hx (List.mem_cons_of_mem _ h)) (fun h => hy (List.mem_cons_of_mem _ h)) e2
        exact ⟨by rw [e1, e3], e4⟩
  obtain ⟨e1, e2⟩ := key _ _ _ _ (no47 a) (no47 b) e
  exact ⟨tx_inj.1 (ba_ext e1), ba_ext e2⟩
theorem qx_47 {a : Rat} (h : a.den ≠ 1) : 47 ∈ (qx a).data.toList := by
  rw [qx_frac h, ba_mid]; simp
/-- Two integers are above and below. -/
theorem q_of {n d : Int} (h1 : 1 < d) (h2 : (Int.gcd n d : Int) ≤ 1) : ∃ q : Rat, q.num = n ∧ (q.den : Int) = d := by
  have hg : Int.gcd n d ≠ 0 := by
    intro e
    rw [Int.gcd_eq_zero_iff] at e
    omega
  refine ⟨⟨n, d.natAbs, by omega, ?_⟩, rfl, by show ((d.natAbs : Nat) : Int) = d; omega⟩
  show n.natAbs.gcd d.natAbs = 1
  have : Int.gcd n d = n.natAbs.gcd d.natAbs := rfl
  omega
theorem q_gcd (q : Rat) : (Int.gcd q.num q.den : Int) = 1 := by
  have h := q.reduced
  have e : Int.gcd q.num q.den = q.num.natAbs.gcd q.den := by unfold Int.gcd; rw [Int.natAbs_natCast]
  have h' : q.num.natAbs.gcd q.den = 1 := h
  omega
theorem qx_size {q : Rat} {k : Nat} (h : Sm k q) : (qx q).size ≤ 2 * k + 2 := by
  have h1 := tx_size q.num
  have h2 := tx_size q.den
  have h3 := h.1
  have h4 := h.2
  unfold qx
  split
  · split at h1 <;> omega
  · rw [ByteArray.size_append, ByteArray.size_append]
    show (tx q.num).size + 1 + (tx q.den).size ≤ _
    rw [if_neg (by omega)] at h2
    split at h1 <;> omega
theorem parse_qx (q : Rat) (w : World) (h : Sm 1000 q) : Calls Tryz.prog 79 #[.string (qx q)] w (GivesRk q.num q.den true w) := by
  have hs := qx_size h
  by_cases hd : q.den = 1
  · have e : qx q = tx q.num := by unfold qx; rw [if_pos hd]
    rw [e, hd]
    exact parse_int q.num w h.1
  · have h0 := q.den_pos
    exact parse_frac _ _ _ w (qx_frac hd) (no47 _) (by omega) q.num q.den rfl h.1 rfl h.2 (by omega) (by rw [q_gcd]; omega)
theorem parse_noq (s : ByteArray) (hm : s.size ≤ 4611686018427387904) (h : NoQ s) : ∃ n d : Int, ∀ w, Calls Tryz.prog 79 #[.string s] w (GivesRk n d false w) := by
  rcases cut_or s with h47 | ⟨A, B, e, ha⟩
  · rcases tx_or s with ⟨z, rfl, hz⟩ | hb
    · exact absurd (qx_int z).symm (h z ((sm_int (by omega)).2 hz))
    · exact ⟨_, _, fun w => parse_bad0 s w h47 hm hb⟩
  · rcases tx_or A with ⟨n, hA, hn⟩ | hb
    · rcases tx_or B with ⟨d, hB, hd⟩ | hb
      · by_cases h1 : d ≤ 1
        · exact ⟨_, _, fun w => parse_bad3 s A B w e ha hm n d hA hn hB hd h1⟩
        · by_cases h2 : 1 < (Int.gcd n d : Int)
          · exact ⟨_, _, fun w => parse_bad4 s A B w e ha hm n d hA hn hB hd (by omega) h2⟩
          · obtain ⟨q, e1, e2⟩ := q_of (n := n) (d := d) (by omega) (by omega)
            refine absurd ?_ (h q ⟨by rw [e1]; exact hn, by rw [e2]; exact hd⟩)
            rw [qx_frac (by omega), e1, e2, e, hA, hB]
      · exact ⟨_, _, fun w => parse_bad2 s A B w e ha hm n hA hn hb⟩
    · exact ⟨_, _, fun w => parse_bad1 s A B w e ha hm hb⟩
end Go.Proofs.YtkhebidmfjbhaaaGreatDoor
namespace Go.Proofs.YtkhebidmfjbhaaaGreatDoor
open Go.RowKit

/-- A cell is written with what it holds. -/
theorem set_same {w : World} {a : Addr} {v : Value} (h : w.cell? a = some v) : w.setCell a v = w := by
  unfold World.cell? at h
  have e : (w.setCell a v).heap = w.heap := by
    unfold World.setCell
    dsimp only
    apply Array.ext (by simp)
    intro i h1 h2
    rw [Array.getElem_modify]
    split
    · rename_i hb
      rw [hb, Array.getElem?_eq_getElem h2] at h
      cases ho : w.heap[i] with
      | cells c t f =>
        rw [ho] at h
        simp only at h ⊢
        split at h
        · cases h
        · rename_i hs
          rw [if_neg hs]
          congr 1
          apply Array.ext (by simp)
          intro j g1 g2
          rw [Array.getElem_setIfInBounds]
          split
          · rename_i hj
            rw [hj, Array.getElem?_eq_getElem g2] at h
            injection h with h
            exact h.symm
          · rfl
      | _ => rfl
    · rfl
  have e2 : w.setCell a v = { w with heap := (w.setCell a v).heap } := rfl
  rw [e2, e]
theorem St.swapR {w W : World} {R : List (Nat × Value × Value × Bool × Value × Value × Bool)} {Z : List (Nat × Value × Value × Bool)} {N : List (Value × Value × Bool × Int)} {a b : Nat × Value × Value × Bool × Value × Value × Bool} (h : St w W (a :: b :: R) Z N) : St w W (b :: a :: R) Z N := by
  have key : ∀ e, e ∈ b :: a :: R ↔ e ∈ a :: b :: R := fun e => by simp only [List.mem_cons]; constructor <;> rintro (h | h | h) <;> simp [h]
  have hd := h.distR
  rw [List.pairwise_cons, List.pairwise_cons] at hd
  refine ⟨h.below, fun e he => h.rats e ((key e).mp he), h.nums, h.nats, h.own, h.dist, fun e he d hx => h.apart e ((key e).mp he) d hx, ?_, fun e he => h.ownR e ((key e).mp he)⟩
  rw [List.pairwise_cons, List.pairwise_cons]
  refine ⟨?_, fun e he => hd.1 e (List.mem_cons_of_mem _ he), hd.2.2⟩
  intro e he
  rcases List.mem_cons.mp he with rfl | he
  · exact (hd.1 _ List.mem_cons_self).symm
  · exact hd.2.1 e he
/-- The call hands back x / y, z / r, and whether both could be read. -/
def GivesB2 (x y z r : Int) (ok : Bool) (w : World) (e : Ending) (w' : World) : Prop := ∃ p v q u p' v' q' u', e = .returned (.tuple #[.agg #[p, v, .bool (decide (x < 0)), q, u, .bool (decide (y < 0))], .agg #[p', v', .bool (decide (z < 0)), q', u', .bool (decide (r < 0))], .bool ok]) ∧ NatV w' p v x.natAbs ∧ NatV w' q u y.natAbs ∧ NatV w' p' v' z.natAbs ∧ NatV w' q' u' r.natAbs ∧ Below w.heap.size w w'
theorem St.giveB {w W : World} {R : List (Nat × Value × Value × Bool × Value × Value × Bool)} {Z : List (Nat × Value × Value × Bool)} {N : List (Value × Value × Bool × Int)} {p v q u p' v' q' u' : Value} {b c b' c' : Bool} {x y z r : Int} {ok : Bool} (h : St w W R Z N) (hx : (p, v, b, x) ∈ N) (hy : (q, u, c, y) ∈ N) (hz : (p', v', b', z) ∈ N) (hr : (q', u', c', r) ∈ N) :
    GivesB2 x y z r ok w (.returned (.tuple #[.agg #[p, v, .bool b, q, u, .bool c], .agg #[p', v', .bool b', q', u', .bool c'], .bool ok])) W :=
  ⟨p, v, q, u, p', v', q', u', by rw [show b = decide (x < 0) from (h.nats _ hx).2, show c = decide (y < 0) from (h.nats _ hy).2, show b' = decide (z < 0) from (h.nats _ hz).2, show c' = decide (r < 0) from (h.nats _ hr).2], (h.nats _ hx).1, (h.nats _ hy).1, (h.nats _ hz).1, (h.nats _ hr).1, h.below⟩
end Go.Proofs.YtkhebidmfjbhaaaGreatDoor
namespace Go.Proofs.YtkhebidmfjbhaaaGreatDoor
open Go.RowKit

set_option maxHeartbeats 4000000 in
set_option maxRecDepth 100000 in
theorem both_ok (A B : ByteArray) (x y z r : Int) (w : World) (CA : ∀ W, Calls Tryz.prog 79 #[.string A] W (GivesRk x y true W)) (CB : ∀ W, Calls Tryz.prog 79 #[.string B] W (GivesRk z r true W)) :
    Calls Tryz.prog 85 #[.string A, .string B, .func (.func 79) #[] #[]] w (GivesB2 x y z r true w) := by
  replace CA := Lib.hid CA
  replace CB := Lib.hid CB
  go_enter Tryz.func85, Tryz.ntmps85
  go_wp2_with fail
  obtain ⟨W0, hW0⟩ : ∃ W0, W0 = ((w.alloc (.cells #[.int .u64 0, .slice none 0 0, .bool false, .int .u64 0, .slice none 0 0, .bool false] 76)).alloc (.cells #[.int .u64 0, .slice none 0 0, .bool false, .int .u64 0, .slice none 0 0, .bool false] 76)) := ⟨_, rfl⟩
  have ST : St w W0 [(w.heap.size + 1, .int .u64 0, .slice none 0 0, false, .int .u64 0, .slice none 0 0, false), (w.heap.size, .int .u64 0, .slice none 0 0, false, .int .u64 0, .slice none 0 0, false)] [] [] := by
    rw [hW0]
    exact ((St.zero).allocR (k := w.heap.size) (t := 76) (by first | rfl | (simp; done) | (simp; omega))).allocR (k := w.heap.size + 1) (t := 76) (by first | rfl | (simp; done) | (simp; omega))
  replace ST := Lib.hid ST
  rw [← hW0]
  clear hW0
  refine Calls.mono (CA.out _) ?_
  rintro e w1 ⟨p1, v1, o1, u1, rfl, hv1, hu1, hb1⟩
  obtain ⟨r1s, hs1⟩ : ∃ sgn, sgn = decide (x < 0) := ⟨_, rfl⟩
  obtain ⟨q1s, ht1⟩ : ∃ sgn, sgn = decide (y < 0) := ⟨_, rfl⟩
  rw [← hs1, ← ht1]
  have hi := And.intro hv1 hs1
  have hj := And.intro hu1 ht1
  obtain ⟨r1t, r1a, r1n, rfl, rfl, -, -, -, -, -, -⟩ := hv1.form
  obtain ⟨q1t, q1a, q1n, rfl, rfl, -, -, -, -, -, -⟩ := hu1.form
  replace ST := Lib.hid (((ST.out.call hb1).know hj).know hi)
  clear hi hj hv1 hu1 hb1 hs1 ht1
  obtain ⟨q0, q1, q2, q3, q4, q5, q6, q7, q8, q9, q10, q11⟩ := ST.out.rats (w.heap.size, .int .u64 0, .slice none 0 0, false, .int .u64 0, .slice none 0 0, false) (by with_reducible ((repeat ((fail_if_success exact mem0); apply List.mem_cons_of_mem)); exact mem0))
  dsimp only at q0 q1 q2 q3 q4 q5 q6 q7 q8 q9 q10 q11
  go_upto_region 2 with fail
  clear q0 q1 q2 q3 q4 q5 q6 q7 q8 q9 q10 q11
  obtain ⟨W1, hW⟩ : ∃ W, W = ((((((w1.setCell ⟨w.heap.size, 0, none⟩ (.int .u64 r1t)).setCell ⟨w.heap.size, 1, none⟩ (.slice r1a r1n r1n)).setCell ⟨w.heap.size, 2, none⟩ (.bool r1s)).setCell ⟨w.heap.size, 3, none⟩ (.int .u64 q1t)).setCell ⟨w.heap.size, 4, none⟩ (.slice q1a q1n q1n)).setCell ⟨w.heap.size, 5, none⟩ (.bool q1s)) := ⟨_, rfl⟩
  rw [← hW]
  replace ST := ST.out.swapR.putR (k := w.heap.size) (p := .int .u64 r1t) (v := .slice r1a r1n r1n) (b := r1s) (q := .int .u64 q1t) (u := .slice q1a q1n q1n) (c := q1s)
  rw [← hW] at ST
  clear hW
  replace ST := Lib.hid ST
  go_wp2_with fail
  refine Calls.mono (CB.out _) ?_
  rintro e w2 ⟨p2, v2, o2, u2, rfl, hv2, hu2, hb2⟩
  obtain ⟨r2s, hs2⟩ : ∃ sgn, sgn = decide (z < 0) := ⟨_, rfl⟩
  obtain ⟨q2s, ht2⟩ : ∃ sgn, sgn = decide (r < 0) := ⟨_, rfl⟩
  rw [← hs2, ← ht2]
  have hi := And.intro hv2 hs2
  have hj := And.intro hu2 ht2
  obtain ⟨r2t, r2a, r2n, rfl, rfl, -, -, -, -, -, -⟩ := hv2.form
  obtain ⟨q2t, q2a, q2n, rfl, rfl, -, -, -, -, -, -⟩ := hu2.form
  replace ST := Lib.hid (((ST.out.call hb2).know hj).know hi)
  clear hi hj hv2 hu2 hb2 hs2 ht2
  obtain ⟨q0, q1, q2, q3, q4, q5, q6, q7, q8, q9, q10, q11⟩ := ST.out.rats ((w.heap.size + 1), .int .u64 0, .slice none 0 0, false, .int .u64 0, .slice none 0 0, false) (by with_reducible ((repeat ((fail_if_success exact mem0); apply List.mem_cons_of_mem)); exact mem0))
  dsimp only at q0 q1 q2 q3 q4 q5 q6 q7 q8 q9 q10 q11
  go_upto_region 5 with fail
  clear q0 q1 q2 q3 q4 q5 q6 q7 q8 q9 q10 q11
  obtain ⟨W2, hW⟩ : ∃ W, W = ((((((w2.setCell ⟨(w.heap.size + 1), 0, none⟩ (.int .u64 r2t)).setCell ⟨(w.heap.size + 1), 1, none⟩ (.slice r2a r2n r2n)).setCell ⟨(w.heap.size + 1), 2, none⟩ (.bool r2s)).setCell ⟨(w.heap.size + 1), 3, none⟩ (.int .u64 q2t)).setCell ⟨(w.heap.size + 1), 4, none⟩ (.slice q2a q2n q2n)).setCell ⟨(w.heap.size + 1), 5, none⟩ (.bool q2s)) := ⟨_, rfl⟩
  rw [← hW]
  replace ST := ST.out.swapR.putR (k := w.heap.size + 1) (p := .int .u64 r2t) (v := .slice r2a r2n r2n) (b := r2s) (q := .int .u64 q2t) (u := .slice q2a q2n q2n) (c := q2s)
  rw [← hW] at ST
  clear hW
  replace ST := Lib.hid ST
  obtain ⟨c0, c1, c2, c3, c4, c5, c6, c7, c8, c9, c10, c11⟩ := ST.out.rats (w.heap.size, .int .u64 r1t, .slice r1a r1n r1n, r1s, .int .u64 q1t, .slice q1a q1n q1n, q1s) (by with_reducible ((repeat ((fail_if_success exact mem0); apply List.mem_cons_of_mem)); exact mem0))
  dsimp only at c0 c1 c2 c3 c4 c5 c6 c7 c8 c9 c10 c11
  obtain ⟨d0, d1, d2, d3, d4, d5, d6, d7, d8, d9, d10, d11⟩ := ST.out.rats (w.heap.size + 1, .int .u64 r2t, .slice r2a r2n r2n, r2s, .int .u64 q2t, .slice q2a q2n q2n, q2s) (by with_reducible ((repeat ((fail_if_success exact mem0); apply List.mem_cons_of_mem)); exact mem0))
  dsimp only at d0 d1 d2 d3 d4 d5 d6 d7 d8 d9 d10 d11
  go_region
  rw [set_same c0, set_same c1, set_same c2, set_same c3, set_same c4, set_same c5, set_same d0, set_same d1, set_same d2, set_same d3, set_same d4, set_same d5]
  go_wp2
  exact bodyPost_ret (v := .tuple #[.agg #[.int .u64 r1t, .slice r1a r1n r1n, .bool r1s, .int .u64 q1t, .slice q1a q1n q1n, .bool q1s], .agg #[.int .u64 r2t, .slice r2a r2n r2n, .bool r2s, .int .u64 q2t, .slice q2a q2n q2n, .bool q2s], .bool true]) (by simp [results, Tryz.results85, go_sem, c0, c1, c2, c3, c4, c5, d0, d1, d2, d3, d4, d5]) rfl (ST.out.drew.giveB (by with_reducible ((repeat ((fail_if_success exact mem0); apply List.mem_cons_of_mem)); exact mem0)) (by with_reducible ((repeat ((fail_if_success exact mem0); apply List.mem_cons_of_mem)); exact mem0)) (by with_reducible ((repeat ((fail_if_success exact mem0); apply List.mem_cons_of_mem)); exact mem0)) (by with_reducible ((repeat ((fail_if_success exact mem0); apply List.mem_cons_of_mem)); exact mem0)))
set_option maxHeartbeats 4000000 in
set_option maxRecDepth 100000 in
theorem both_okE (A B : ByteArray) (x y z r : Int) (w : World) (CA : ∀ W, Calls Tryz.prog 82 #[.string A] W (GivesRk x y true W)) (CB : ∀ W, Calls Tryz.prog 82 #[.string B] W (GivesRk z r true W)) :
    Calls Tryz.prog 85 #[.string A, .string B, .func (.func 82) #[] #[]] w (GivesB2 x y z r true w) := by
  replace CA := Lib.hid CA
  replace CB := Lib.hid CB
  go_enter Tryz.func85, Tryz.ntmps85
  go_wp2_with fail
  obtain ⟨W0, hW0⟩ : ∃ W0, W0 = ((w.alloc (.cells #[.int .u64 0, .slice none 0 0, .bool false, .int .u64 0, .slice none 0 0, .bool false] 76)).alloc (.cells #[.int .u64 0, .slice none 0 0, .bool false, .int .u64 0, .slice none 0 0, .bool false] 76)) := ⟨_, rfl⟩
  have ST : St w W0 [(w.heap.size + 1, .int .u64 0, .slice none 0 0, false, .int .u64 0, .slice none 0 0, false), (w.heap.size, .int .u64 0, .slice none 0 0, false, .int .u64 0, .slice none 0 0, false)] [] [] := by
    rw [hW0]
    exact ((St.zero).allocR (k := w.heap.size) (t := 76) (by first | rfl | (simp; done) | (simp; omega))).allocR (k := w.heap.size + 1) (t := 76) (by first | rfl | (simp; done) | (simp; omega))
  replace ST := Lib.hid ST
  rw [← hW0]
  clear hW0
  refine Calls.mono (CA.out _) ?_
  rintro e w1 ⟨p1, v1, o1, u1, rfl, hv1, hu1, hb1⟩
  obtain ⟨r1s, hs1⟩ : ∃ sgn, sgn = decide (x < 0) := ⟨_, rfl⟩
  obtain ⟨q1s, ht1⟩ : ∃ sgn, sgn = decide (y < 0) := ⟨_, rfl⟩
  rw [← hs1, ← ht1]
  have hi := And.intro hv1 hs1
  have hj := And.intro hu1 ht1
  obtain ⟨r1t, r1a, r1n, rfl, rfl, -, -, -, -, -, -⟩ := hv1.form
  obtain ⟨q1t, q1a, q1n, rfl, rfl, -, -, -, -, -, -⟩ := hu1.form
  replace ST := Lib.hid (((ST.out.call hb1).know hj).know hi)
  clear hi hj hv1 hu1 hb1 hs1 ht1
  obtain ⟨q0, q1, q2, q3, q4, q5, q6, q7, q8, q9, q10, q11⟩ := ST.out.rats (w.heap.size, .int .u64 0, .slice none 0 0, false, .int .u64 0, .slice none 0 0, false) (by with_reducible ((repeat ((fail_if_success exact mem0); apply List.mem_cons_of_mem)); exact mem0))
  dsimp only at q0 q1 q2 q3 q4 q5 q6 q7 q8 q9 q10 q11
  go_upto_region 2 with fail
  clear q0 q1 q2 q3 q4 q5 q6 q7 q8 q9 q10 q11
  obtain ⟨W1, hW⟩ : ∃ W, W = ((((((w1.setCell ⟨w.heap.size, 0, none⟩ (.int .u64 r1t)).setCell ⟨w.heap.size, 1, none⟩ (.slice r1a r1n r1n)).setCell ⟨w.heap.size, 2, none⟩ (.bool r1s)).setCell ⟨w.heap.size, 3, none⟩ (.int .u64 q1t)).setCell ⟨w.heap.size, 4, none⟩ (.slice q1a q1n q1n)).setCell ⟨w.heap.size, 5, none⟩ (.bool q1s)) := ⟨_, rfl⟩
  rw [← hW]
  replace ST := ST.out.swapR.putR (k := w.heap.size) (p := .int .u64 r1t) (v := .slice r1a r1n r1n) (b := r1s) (q := .int .u64 q1t) (u := .slice q1a q1n q1n) (c := q1s)
  rw [← hW] at ST
  clear hW
  replace ST := Lib.hid ST
  go_wp2_with fail
  refine Calls.mono (CB.out _) ?_
  rintro e w2 ⟨p2, v2, o2, u2, rfl, hv2, hu2, hb2⟩
  obtain ⟨r2s, hs2⟩ : ∃ sgn, sgn = decide (z < 0) := ⟨_, rfl⟩
  obtain ⟨q2s, ht2⟩ : ∃ sgn, sgn = decide (r < 0) := ⟨_, rfl⟩
  rw [← hs2, ← ht2]
  have hi := And.intro hv2 hs2
  have hj := And.intro hu2 ht2
  obtain ⟨r2t, r2a, r2n, rfl, rfl, -, -, -, -, -, -⟩ := hv2.form
  obtain ⟨q2t, q2a, q2n, rfl, rfl, -, -, -, -, -, -⟩ := hu2.form
  replace ST := Lib.hid (((ST.out.call hb2).know hj).know hi)
  clear hi hj hv2 hu2 hb2 hs2 ht2
  obtain ⟨q0, q1, q2, q3, q4, q5, q6, q7, q8, q9, q10, q11⟩ := ST.out.rats ((w.heap.size + 1), .int .u64 0, .slice none 0 0, false, .int .u64 0, .slice none 0 0, false) (by with_reducible ((repeat ((fail_if_success exact mem0); apply List.mem_cons_of_mem)); exact mem0))
  dsimp only at q0 q1 q2 q3 q4 q5 q6 q7 q8 q9 q10 q11
  go_upto_region 5 with fail
  clear q0 q1 q2 q3 q4 q5 q6 q7 q8 q9 q10 q11
  obtain ⟨W2, hW⟩ : ∃ W, W = ((((((w2.setCell ⟨(w.heap.size + 1), 0, none⟩ (.int .u64 r2t)).setCell ⟨(w.heap.size + 1), 1, none⟩ (.slice r2a r2n r2n)).setCell ⟨(w.heap.size + 1), 2, none⟩ (.bool r2s)).setCell ⟨(w.heap.size + 1), 3, none⟩ (.int .u64 q2t)).setCell ⟨(w.heap.size + 1), 4, none⟩ (.slice q2a q2n q2n)).setCell ⟨(w.heap.size + 1), 5, none⟩ (.bool q2s)) := ⟨_, rfl⟩
  rw [← hW]
  replace ST := ST.out.swapR.putR (k := w.heap.size + 1) (p := .int .u64 r2t) (v := .slice r2a r2n r2n) (b := r2s) (q := .int .u64 q2t) (u := .slice q2a q2n q2n) (c := q2s)
  rw [← hW] at ST
  clear hW
  replace ST := Lib.hid ST
  obtain ⟨c0, c1, c2, c3, c4, c5, c6, c7, c8, c9, c10, c11⟩ := ST.out.rats (w.heap.size, .int .u64 r1t, .slice r1a r1n r1n, r1s, .int .u64 q1t, .slice q1a q1n q1n, q1s) (by with_reducible ((repeat ((fail_if_success exact mem0); apply List.mem_cons_of_mem)); exact mem0))
  dsimp only at c0 c1 c2 c3 c4 c5 c6 c7 c8 c9 c10 c11
  obtain ⟨d0, d1, d2, d3, d4, d5, d6, d7, d8, d9, d10, d11⟩ := ST.out.rats (w.heap.size + 1, .int .u64 r2t, .slice r2a r2n r2n, r2s, .int .u64 q2t, .slice q2a q2n q2n, q2s) (by with_reducible ((repeat ((fail_if_success exact mem0); apply List.mem_cons_of_mem)); exact mem0))
  dsimp only at d0 d1 d2 d3 d4 d5 d6 d7 d8 d9 d10 d11
  go_region
  rw [set_same c0, set_same c1, set_same c2, set_same c3, set_same c4, set_same c5, set_same d0, set_same d1, set_same d2, set_same d3, set_same d4, set_same d5]
  go_wp2
  exact bodyPost_ret (v := .tuple #[.agg #[.int .u64 r1t, .slice r1a r1n r1n, .bool r1s, .int .u64 q1t, .slice q1a q1n q1n, .bool q1s], .agg #[.int .u64 r2t, .slice r2a r2n r2n, .bool r2s, .int .u64 q2t, .slice q2a q2n q2n, .bool q2s], .bool true]) (by simp [results, Tryz.results85, go_sem, c0, c1, c2, c3, c4, c5, d0, d1, d2, d3, d4, d5]) rfl (ST.out.drew.giveB (by with_reducible ((repeat ((fail_if_success exact mem0); apply List.mem_cons_of_mem)); exact mem0)) (by with_reducible ((repeat ((fail_if_success exact mem0); apply List.mem_cons_of_mem)); exact mem0)) (by with_reducible ((repeat ((fail_if_success exact mem0); apply List.mem_cons_of_mem)); exact mem0)) (by with_reducible ((repeat ((fail_if_success exact mem0); apply List.mem_cons_of_mem)); exact mem0)))
end Go.Proofs.YtkhebidmfjbhaaaGreatDoor
namespace Go.Proofs.YtkhebidmfjbhaaaGreatDoor
open Go.RowKit

theorem dn_of_le {x : Int} {k : Nat} (hk : 1 ≤ k) (h : (x.natAbs : Int) < Ten.bp k) : dn x ≤ k := by
  rw [← dn_abs]
  exact dn_le (by omega) hk h
theorem abs_lt {x : Int} {k : Nat} (h : dn x ≤ k) : (x.natAbs : Int) < Ten.bp k := by
  have h1 := dn_lt (x := (x.natAbs : Int)) (by omega)
  rw [dn_abs] at h1
  exact Int.lt_of_lt_of_le h1 (Ten.bp_mono h)
theorem dn_plus {x y : Int} {k : Nat} (hx : dn x ≤ k) (hy : dn y ≤ k) : dn (x + y) ≤ k + 1 := by
  refine dn_of_le (by omega) ?_
  rw [Ten.bp_succ]
  have := abs_lt hx
  have := abs_lt hy
  omega
theorem dn_times {x y : Int} {j k : Nat} (hx : dn x ≤ j) (hy : dn y ≤ k) (hj : 1 ≤ j) : dn (x * y) ≤ j + k := by
  refine dn_of_le (by omega) ?_
  rw [Int.natAbs_mul, Int.natCast_mul]
  exact Ten.mul_lt_bp (by omega) (by omega) (abs_lt hx) (abs_lt hy)
theorem Sm.mono {i k : Nat} {a : Rat} (h : Sm i a) (hk : i ≤ k) : Sm k a := ⟨Nat.le_trans h.1 hk, Nat.le_trans h.2 hk⟩
theorem fdiv_dk {x y : Int} {k : Nat} (h0 : y ≠ 0) (hx : dn x ≤ k) : dn (x.fdiv y) ≤ k := Nat.le_trans (dn_abs_le (fdiv_abs h0)) hx
theorem Sm.divInt {n d : Int} {k : Nat} (hn : dn n ≤ k) (hd : dn d ≤ k) (h0 : d ≠ 0) : Sm k (Rat.divInt n d) := by
  have hg : (Int.gcd n d : Int) ≠ 0 := by
    intro e
    have e' : Int.gcd n d = 0 := by omega
    rw [Int.gcd_eq_zero_iff] at e'
    exact h0 e'.2
  rcases Int.lt_or_gt_of_ne h0 with h | h
  · have e := quo_neg n d h
    refine ⟨?_, ?_⟩
    · rw [← e.1]; exact fdiv_dk (by omega) hn
    · rw [← e.2]; exact fdiv_dk (by omega) hd
  · have e := quo_pos n d h
    refine ⟨?_, ?_⟩
    · rw [← e.1]; exact fdiv_dk (by omega) hn
    · rw [← e.2]; exact fdiv_dk (by omega) hd
theorem den_ne (a : Rat) : (a.den : Int) ≠ 0 := by have := a.den_nz; omega
theorem Sm.neg {k : Nat} {a : Rat} (h : Sm k a) : Sm k (-a) := ⟨by rw [Rat.neg_num, dn_neg]; exact h.1, by rw [Rat.neg_den]; exact h.2⟩
theorem nl_of_dn {z : Int} {k : Nat} (h : dn z ≤ 9 * k) : nl z.natAbs ≤ k := by
  have := nl_dn (x := (z.natAbs : Int)) (by omega)
  rw [dn_abs] at this
  omega
theorem Sm.q9 {k : Nat} {a : Rat} (h : Sm (9 * k) a) : Q9 k a := ⟨nl_of_dn h.1, nl_of_dn h.2⟩
theorem Sm.q {a : Rat} (h : Sm 1000 a) : Q9 112 a := (h.mono (by omega) : Sm (9 * 112) a).q9
end Go.Proofs.YtkhebidmfjbhaaaGreatDoor
namespace Go.Proofs.YtkhebidmfjbhaaaGreatDoor
open Go.RowKit

/-- A rational number, or inf. -/
def eN : Option Rat → Int
  | none => 1
  | some q => q.num
def eD : Option Rat → Int
  | none => 0
  | some q => q.den
def ex : Option Rat → ByteArray
  | none => ⟨#[105, 110, 102]⟩
  | some q => qx q
def SmE (k : Nat) : Option Rat → Prop
  | none => True
  | some q => Sm k q
theorem inf_no : NoQ ⟨#[105, 110, 102]⟩ := by
  intro q hq e
  by_cases hd : q.den = 1
  · have e2 : qx q = tx q.num := by unfold qx; rw [if_pos hd]
    have h2 := isT_tx hq.1
    rw [← e2, ← e] at h2
    exact absurd h2 (by decide)
  · have h2 := qx_47 hd
    rw [← e] at h2
    exact absurd h2 (by decide)
theorem str_eq (s t : ByteArray) : (s.toList == t.toList) = decide (s = t) := by
  rw [Lib.toList_data, Lib.toList_data]
  by_cases h : s = t
  · subst h; rw [decide_eq_true rfl, beq_iff_eq]
  · rw [decide_eq_false h, beq_eq_false_iff_ne]
    intro e
    exact h (ba_ext e)
theorem lit_inf : (⟨#[105, 110, 102]⟩ : ByteArray).toList = [105, 110, 102] := by rw [Lib.toList_data]
/-- What parse, parseEnd answer for a text. -/
def PR (s : ByteArray) (n d : Int) (ok : Bool) : Prop := ∀ W, Calls Tryz.prog 79 #[.string s] W (GivesRk n d ok W)
def PE (s : ByteArray) (n d : Int) (ok : Bool) : Prop := ∀ W, Calls Tryz.prog 82 #[.string s] W (GivesRk n d ok W)
theorem PR.q {q : Rat} (h : Sm 1000 q) : PR (qx q) q.num q.den true := fun W => parse_qx q W h
theorem PR.no {s : ByteArray} (hm : s.size ≤ 4611686018427387904) (h : NoQ s) : ∃ n d : Int, PR s n d false := parse_noq s hm h
set_option maxHeartbeats 4000000 in
set_option maxRecDepth 100000 in
theorem parseEnd_not (s : ByteArray) (n d : Int) (ok : Bool) (w : World) (hs : s ≠ ⟨#[105, 110, 102]⟩) (C : PR s n d ok) : Calls Tryz.prog 82 #[.string s] w (GivesRk n d ok w) := by
  have hs1 : (s.toList == [105, 110, 102]) = false := by rw [← lit_inf, str_eq]; exact decide_eq_false hs
  replace C := Lib.hid C
  clear hs
  go_enter Tryz.func82, Tryz.ntmps82
  go_wp2_with fail
  obtain ⟨W0, hW0⟩ : ∃ W0, W0 = (w.alloc (.cells #[.int .u64 0, .slice none 0 0, .bool false, .int .u64 0, .slice none 0 0, .bool false] 76)) := ⟨_, rfl⟩
  have ST : St w W0 [(w.heap.size, .int .u64 0, .slice none 0 0, false, .int .u64 0, .slice none 0 0, false)] [] [] := by
    rw [hW0]
    exact (St.zero).allocR (k := w.heap.size) (t := 76) (by first | rfl | (simp; done) | (simp; omega))
  replace ST := Lib.hid ST
  rw [← hW0]
  clear hW0
  refine Calls.mono (C.out _) ?_
  rintro e w1 ⟨p1, v1, o1, u1, rfl, hv1, hu1, hb1⟩
  obtain ⟨r1s, hs1⟩ : ∃ sgn, sgn = decide (n < 0) := ⟨_, rfl⟩
  obtain ⟨q1s, ht1⟩ : ∃ sgn, sgn = decide (d < 0) := ⟨_, rfl⟩
  rw [← hs1, ← ht1]
  have hi := And.intro hv1 hs1
  have hj := And.intro hu1 ht1
  obtain ⟨r1t, r1a, r1n, rfl, rfl, -, -, -, -, -, -⟩ := hv1.form
  obtain ⟨q1t, q1a, q1n, rfl, rfl, -, -, -, -, -, -⟩ := hu1.form
  replace ST := Lib.hid (((ST.out.call hb1).know hj).know hi)
  clear hi hj hv1 hu1 hb1 hs1 ht1
  obtain ⟨q0, q1, q2, q3, q4, q5, q6, q7, q8, q9, q10, q11⟩ := ST.out.rats (w.heap.size, .int .u64 0, .slice none 0 0, false, .int .u64 0, .slice none 0 0, false) (by with_reducible ((repeat ((fail_if_success exact mem0); apply List.mem_cons_of_mem)); exact mem0))
  dsimp only at q0 q1 q2 q3 q4 q5 q6 q7 q8 q9 q10 q11
  go_wp2
  exact bodyPost_ret (v := .tuple #[.agg #[.int .u64 r1t, .slice r1a r1n r1n, .bool r1s, .int .u64 q1t, .slice q1a q1n q1n, .bool q1s], .bool ok]) (by simp [results, Tryz.results82, go_sem, q0, q1, q2, q3, q4, q5]) rfl (ST.out.giveR (k := w.heap.size) (by with_reducible ((repeat ((fail_if_success exact mem0); apply List.mem_cons_of_mem)); exact mem0)) (by omega) (by with_reducible ((repeat ((fail_if_success exact mem0); apply List.mem_cons_of_mem)); exact mem0)) (by with_reducible ((repeat ((fail_if_success exact mem0); apply List.mem_cons_of_mem)); exact mem0))).rk
set_option maxHeartbeats 4000000 in
set_option maxRecDepth 100000 in
theorem parseEnd_inf (w : World) : Calls Tryz.prog 82 #[.string ⟨#[105, 110, 102]⟩] w (GivesRk 1 0 true w) := by
  obtain ⟨s, hs⟩ : ∃ s : ByteArray, s = ⟨#[105, 110, 102]⟩ := ⟨_, rfl⟩
  have hs1 : (s.toList == [105, 110, 102]) = true := by rw [hs, lit_inf]; rfl
  rw [← hs]
  clear hs
  go_enter Tryz.func82, Tryz.ntmps82
  go_wp2_with fail
  obtain ⟨W0, hW0⟩ : ∃ W0, W0 = (w.alloc (.cells #[.int .u64 0, .slice none 0 0, .bool false, .int .u64 0, .slice none 0 0, .bool false] 76)) := ⟨_, rfl⟩
  have ST : St w W0 [(w.heap.size, .int .u64 0, .slice none 0 0, false, .int .u64 0, .slice none 0 0, false)] [] [] := by
    rw [hW0]
    exact (St.zero).allocR (k := w.heap.size) (t := 76) (by first | rfl | (simp; done) | (simp; omega))
  replace ST := Lib.hid ST
  rw [← hW0]
  clear hW0
  refine St.arm (w := w) (by exact ST.out) (by intro H; exact OfZ_any 1 _ (by decide) (by decide)) ?_
  rintro e w1 ⟨⟨p1, v1, rfl, hv1, hb1⟩, H⟩
  obtain ⟨r1s, hs1⟩ : ∃ sgn, sgn = decide ((1 : Int) < 0) := ⟨_, rfl⟩
  rw [← hs1]
  have hi := And.intro hv1 hs1
  obtain ⟨r1t, r1a, r1n, rfl, rfl, -, -, -, -, -, -⟩ := hv1.form
  replace ST := Lib.hid (((H.call hb1).know (p := .int .u64 0) (v := .slice none 0 0) (b := false) (x := 0) ⟨NatV.zero _, by decide⟩).know hi)
  clear hi H hv1 hb1 hs1
  obtain ⟨q0, q1, q2, q3, q4, q5, q6, q7, q8, q9, q10, q11⟩ := ST.out.rats (w.heap.size, .int .u64 0, .slice none 0 0, false, .int .u64 0, .slice none 0 0, false) (by with_reducible ((repeat ((fail_if_success exact mem0); apply List.mem_cons_of_mem)); exact mem0))
  dsimp only at q0 q1 q2 q3 q4 q5 q6 q7 q8 q9 q10 q11
  go_wp2
  exact bodyPost_ret (v := .tuple #[.agg #[.int .u64 r1t, .slice r1a r1n r1n, .bool r1s, .int .u64 0, .slice none 0 0, .bool false], .bool true]) (by simp [results, Tryz.results82, go_sem, q0, q1, q2, q3, q4, q5]) rfl (ST.out.giveR (k := w.heap.size) (by with_reducible ((repeat ((fail_if_success exact mem0); apply List.mem_cons_of_mem)); exact mem0)) (by omega) (by with_reducible ((repeat ((fail_if_success exact mem0); apply List.mem_cons_of_mem)); exact mem0)) (by with_reducible ((repeat ((fail_if_success exact mem0); apply List.mem_cons_of_mem)); exact mem0))).rk
theorem PE.e {x : Option Rat} (h : SmE 1000 x) : PE (ex x) (eN x) (eD x) true := by
  cases x with
  | none => exact fun W => parseEnd_inf W
  | some q => exact fun W => parseEnd_not (qx q) _ _ _ W (fun e => inf_no q h e.symm) (PR.q h)
theorem Valid_of (s : ByteArray) (n d : Int) (ok : Bool) (w : World) (C : PR s n d ok) : Calls Tryz.prog 15 #[.string s] w (GivesBo ok w) := by
  replace C := Lib.hid C
  go_enter Tryz.func15, Tryz.ntmps15
  go_wp2_with fail
  refine Calls.mono (C.out _) ?_
  rintro e w1 ⟨p1, v1, o1, u1, rfl, hv1, hu1, hb1⟩
  obtain ⟨s1, hs1⟩ : ∃ s, s = decide (n < 0) := ⟨_, rfl⟩
  obtain ⟨s2, hs2⟩ : ∃ s, s = decide (d < 0) := ⟨_, rfl⟩
  rw [← hs1, ← hs2]
  have B1 := Lib.hid (hb1.alloc hb1.size (.cells #[p1, v1, .bool s1, o1, u1, .bool s2] 76))
  clear hs1 hs2 hb1
  obtain ⟨r1t, r1a, r1n, rfl, rfl, -, -, -, -, -, -⟩ := hv1.form
  obtain ⟨q1t, q1a, q1n, rfl, rfl, -, -, -, -, -, -⟩ := hu1.form
  clear hv1 hu1
  go_wp2
  go_ret
  exact ⟨rfl, B1.out⟩
/-- The call hands back two texts and a flag. -/
def GivesS2 (a b : ByteArray) (ok : Bool) (w : World) (e : Ending) (w' : World) : Prop := e = .returned (.tuple #[.string a, .string b, .bool ok]) ∧ Below w.heap.size w w'
theorem split_int (z : Int) (w : World) (hz : dn z ≤ 1000) : Calls Tryz.prog 83 #[.string (tx z)] w (GivesS2 (tx z) ⟨#[49]⟩ true w) := by
  have V := Lib.hid (fun W => Valid_of (tx z) z 1 true W (fun W => parse_int z W hz))
  have CT := Lib.hid (fun w => cut_no (tx z) w (no47 z))
  obtain ⟨X, hX⟩ : ∃ X, X = tx z := ⟨_, rfl⟩
  rw [← hX] at V CT ⊢
  clear hX hz
  go_enter Tryz.func83, Tryz.ntmps83
  go_wp2_with fail
  refine (V.out _).mono ?_
  rintro e w1 ⟨rfl, hb1⟩
  have B1 := Lib.hid hb1
  clear hb1
  go_wp2_with fail
  refine (CT.out _).mono ?_
  rintro e w2 ⟨rfl, hb2⟩
  have B2 := Lib.hid (B1.out.trans (hb2.mono B1.out.size))
  clear hb2
  go_wp2
  exact bodyPost_ret (v := .tuple #[.string X, .string ⟨#[49]⟩, .bool true]) (by simp [results, Tryz.results83, go_sem]) rfl ⟨rfl, B2.out⟩
theorem split_frac (X A B : ByteArray) (n d : Int) (w : World) (h : X = A ++ ⟨#[47]⟩ ++ B) (ha : ¬ 47 ∈ A.data.toList) (hs : X.size ≤ 4611686018427387904) (C : PR X n d true) : Calls Tryz.prog 83 #[.string X] w (GivesS2 A B true w) := by
  have V := Lib.hid (fun W => Valid_of X n d true W C)
  have CT := Lib.hid (fun w => cut_at X A B w h ha hs)
  clear h ha hs C
  go_enter Tryz.func83, Tryz.ntmps83
  go_wp2_with fail
  refine (V.out _).mono ?_
  rintro e w1 ⟨rfl, hb1⟩
  have B1 := Lib.hid hb1
  clear hb1
  go_wp2_with fail
  refine (CT.out _).mono ?_
  rintro e w2 ⟨rfl, hb2⟩
  have B2 := Lib.hid (B1.out.trans (hb2.mono B1.out.size))
  clear hb2
  go_wp2
  exact bodyPost_ret (v := .tuple #[.string A, .string B, .bool true]) (by simp [results, Tryz.results83, go_sem]) rfl ⟨rfl, B2.out⟩
theorem tx_1 : tx 1 = ⟨#[49]⟩ := by unfold tx; simp [Lib.itoa, Lib.decDigits]
theorem split_q (q : Rat) (w : World) (h : Sm 1000 q) : Calls Tryz.prog 83 #[.string (qx q)] w (GivesS2 (tx q.num) (tx q.den) true w) := by
  by_cases hd : q.den = 1
  · have e : qx q = tx q.num := by unfold qx; rw [if_pos hd]
    rw [e, hd]
    have h1 := split_int q.num w h.1
    rw [← tx_1] at h1
    exact h1
  · have hs := qx_size h
    exact split_frac _ _ _ _ _ w (qx_frac hd) (no47 _) (by omega) (PR.q h)
end Go.Proofs.YtkhebidmfjbhaaaGreatDoor
namespace Go.Proofs.YtkhebidmfjbhaaaGreatDoor
open Go.RowKit

/-- What split answers for a text. -/
def SP (s A B : ByteArray) (ok : Bool) : Prop := ∀ W, Calls Tryz.prog 83 #[.string s] W (GivesS2 A B ok W)
theorem SP.q {q : Rat} (h : Sm 1000 q) : SP (qx q) (tx q.num) (tx q.den) true := fun W => split_q q W h
theorem Num_of (s A B : ByteArray) (ok : Bool) (w : World) (C : SP s A B ok) :
    Calls Tryz.prog 19 #[.string s] w (GivesY A w) := by
  replace C := Lib.hid C
  go_enter Tryz.func19, Tryz.ntmps19
  go_wp2_with fail
  refine (C.out _).mono ?_
  rintro e w1 ⟨rfl, hb1⟩
  have B1 := Lib.hid hb1
  clear hb1
  go_wp2
  go_ret
  exact ⟨rfl, B1.out⟩
theorem Den_of (s A B : ByteArray) (ok : Bool) (w : World) (C : SP s A B ok) :
    Calls Tryz.prog 21 #[.string s] w (GivesY B w) := by
  replace C := Lib.hid C
  go_enter Tryz.func21, Tryz.ntmps21
  go_wp2_with fail
  refine (C.out _).mono ?_
  rintro e w1 ⟨rfl, hb1⟩
  have B1 := Lib.hid hb1
  clear hb1
  go_wp2
  go_ret
  exact ⟨rfl, B1.out⟩
theorem Sign_of (s A B : ByteArray) (ok : Bool) (t : Int) (w : World) (C : SP s A B ok) (D : ∀ W, Calls Tryz.prog 73 #[.string A] W fun e w' => e = .returned (.int .i64 t) ∧ W = w') :
    Calls Tryz.prog 23 #[.string s] w (GivesI t w) := by
  have NU := Lib.hid (fun W => Num_of s A B ok W C)
  replace D := Lib.hid D
  go_enter Tryz.func23, Tryz.ntmps23
  go_wp2_with fail
  refine (NU.out _).mono ?_
  rintro e w1 ⟨rfl, hb1⟩
  have B1 := Lib.hid hb1
  clear hb1
  go_wp2_with fail
  refine (D.out _).mono ?_
  rintro e w2 ⟨rfl, rfl⟩
  go_wp2
  go_ret
  exact ⟨rfl, B1.out⟩
theorem Neg_of (s A B X Q : ByteArray) (w : World) (C : SP s A B true) (D : ∀ W, Calls Tryz.prog 89 #[.string A] W fun e w' => e = .returned (.string X) ∧ W = w') (E : ∀ W, Calls Tryz.prog 88 #[.string X, .string B] W (GivesY Q W)) :
    Calls Tryz.prog 31 #[.string s] w (GivesY Q w) := by
  replace C := Lib.hid C
  replace D := Lib.hid D
  replace E := Lib.hid E
  go_enter Tryz.func31, Tryz.ntmps31
  go_wp2_with fail
  refine (C.out _).mono ?_
  rintro e w1 ⟨rfl, hb1⟩
  have B1 := Lib.hid hb1
  clear hb1
  go_wp2_with fail
  refine (D.out _).mono ?_
  rintro e w2 ⟨rfl, rfl⟩
  go_wp2_with fail
  refine (E.out _).mono ?_
  rintro e w2 ⟨rfl, hb2⟩
  have B2 := Lib.hid (B1.out.trans (hb2.mono B1.out.size))
  clear hb2
  go_wp2
  go_ret
  exact ⟨rfl, B2.out⟩
theorem Floor_of (s A B Q R : ByteArray) (E : Int) (w : World) (tb : Tb w) (C : SP s A B true) (D : ∀ W, Tb W → Calls Tryz.prog 106 #[.string A, .string B] W (GivesQr Q R E W)) :
    Calls Tryz.prog 47 #[.string s] w (GivesSn Q E w) := by
  replace C := Lib.hid C
  replace D := Lib.hid D
  have TB := Lib.hid tb
  clear tb
  go_enter Tryz.func47, Tryz.ntmps47
  go_wp2_with fail
  refine (C.out _).mono ?_
  rintro e w1 ⟨rfl, hb1⟩
  have B1 := Lib.hid hb1
  clear hb1
  go_wp2_with fail
  refine (D.out _ (TB.out.below B1.out)).mono ?_
  rintro e w2 ⟨rfl, hb2⟩
  have B2 := Lib.hid (B1.out.trans (hb2.mono B1.out.size))
  clear hb2
  go_wp2
  go_ret2
  exact ⟨rfl, B2.out⟩
theorem qx_of (n d : Int) (q : Rat) (h1 : q.num = n) (h2 : (q.den : Int) = d) (hn : dn n ≤ 50000) (hd : dn d ≤ 50000) (W : World) : Calls Tryz.prog 88 #[.string (tx n), .string (tx d)] W (GivesY (qx q) W) := by
  rw [← h1] at hn
  rw [← h2] at hd
  rw [← h1, ← h2]
  exact join_qx q W hn hd
theorem Num_q (q : Rat) (w : World) (h : Sm 1000 q) : Calls Tryz.prog 19 #[.string (qx q)] w (GivesY (tx q.num) w) := Num_of _ _ _ _ w (SP.q h)
theorem Den_q (q : Rat) (w : World) (h : Sm 1000 q) : Calls Tryz.prog 21 #[.string (qx q)] w (GivesY (tx q.den) w) := Den_of _ _ _ _ w (SP.q h)
theorem Sign_q (q : Rat) (w : World) (h : Sm 1000 q) : Calls Tryz.prog 23 #[.string (qx q)] w (GivesI (sg q.num) w) := Sign_of _ _ _ _ _ w (SP.q h) (fun W => Sign_tx _ W h.1)
theorem Neg_q (q : Rat) (w : World) (h : Sm 1000 q) : Calls Tryz.prog 31 #[.string (qx q)] w (GivesY (qx (-q)) w) :=
  Neg_of _ _ _ _ _ w (SP.q h) (fun W => Neg_tx _ W h.1) (fun W => qx_of (-q.num) q.den (-q) (Rat.neg_num q) (by rw [Rat.neg_den]) (by rw [dn_neg]; have := h.1; omega) (by have := h.2; omega) W)
theorem Floor_q (q : Rat) (w : World) (tb : Tb w) (h : Sm 1000 q) : Calls Tryz.prog 47 #[.string (qx q)] w (GivesSn (tx (q.num.fdiv q.den)) 0 w) :=
  Floor_of _ _ _ _ _ _ w tb (SP.q h) (fun W tb => DivMod_tx _ _ W tb h.1 h.2 (den_ne q))
end Go.Proofs.YtkhebidmfjbhaaaGreatDoor
