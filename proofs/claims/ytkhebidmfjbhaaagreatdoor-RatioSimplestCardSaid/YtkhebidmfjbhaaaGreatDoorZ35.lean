/-
  Appends to a row of the call's own, and where the new row lies; numbers in rows with a known place.
  Lists of integers that a call itself appends.
  How many terms the simplest number has, and how large they are.
  Numbers as written: a sign, digits, a mark, digits.
  The steps of read through a text.
-/
import Derived.Test.YtkhebidmfjbhaaaGreatDoorZ28
import Derived.Test.YtkhebidmfjbhaaaGreatDoorZ34
import Derived.Test.YtkhebidmfjbhaaaGreatDoorZ31
import Derived.Lib.OthersKept
namespace Go.Proofs.YtkhebidmfjbhaaaGreatDoor
open Go.RowKit
open Go

theorem below_own {w w' : World} {B : Nat} {e : TypeId} {size n : Nat} {v : Value} {xs : List Value} (h : w.ownsRow B e size v n xs) (hb : Below w.heap.size w w') : w'.ownsRow B e size v n xs := by
  refine ⟨h.1, ?_⟩
  rcases h.2 with hn | ⟨g, cap, cur, rfl, hB, hg, rest⟩
  · exact .inl hn
  · refine .inr ⟨g, cap, cur, rfl, hB, ?_, rest⟩
    rw [hb.block g (Array.getElem?_eq_some_iff.1 hg).1]
    exact hg
theorem run_append_at {P : Program} (w : World) (base : Nat) (t ty e : TypeId) (i : TypeInfo) (z : Value) (size bytes : Nat) (ht : P.underlying t = some (.slice e)) (hi : P.info? e = some i) (hz : i.zero = some z)
    (hsize : i.size = size) (hby : i.bytes = bytes) (hzs : z.cells.size = size) (hsz : 0 < size)
    (v : Value) (n : Nat) (xs : List Value) (hown : w.ownsRow base e size v n xs)
    (a : Addr) (m c : Nat) (news : List Value) (hl : news.length = m * size) (hnews : ∀ j u, news[j]? = some u → w.cell? (a.add j) = some u) (h1 : ∀ u ∈ news, u.oneCell' = true)
    (h63 : n + m ≤ maxLen) (hbytes : (n + m) * bytes ≤ 140737488355328) (hbase : base ≤ w.heap.size) :
    ∃ v' w', (Builtin.append_ #[t, t] ty #[v, .slice (some a) m c]).run P w = .ok v' w' ∧ w'.ownsRow base e size v' (n + m) (xs ++ news) ∧ w.grownBy w' v.ownBlock ∧
      (v' = .slice none 0 0 ↔ v = .slice none 0 0 ∧ m = 0) ∧ (∀ k, v'.ownBlock = some k → v.ownBlock = some k ∨ w.heap.size ≤ k) := by
  obtain ⟨v', w', hr, h2, h3, h4⟩ := run_append_own (P := P) w base t ty e i z size bytes ht hi hz hsize hby hzs hsz v n xs hown a m c news hl hnews h1 h63 hbytes hbase
  refine ⟨v', w', hr, h2, h3, h4, ?_⟩
  intro k hk
  rcases hown.2 with ⟨rfl, rfl⟩ | ⟨g, cap, cur, rfl, hbg, hg, hnc, hcm, hcs, htake⟩
  · obtain ⟨v2, w2, hr2, h5, _, _⟩ := run_append_own (P := P) w w.heap.size t ty e i z size bytes ht hi hz hsize hby hzs hsz (.slice none 0 0) 0 [] (World.ownsRow_nil _ _ _ _) a m c news hl hnews h1 h63 hbytes (Nat.le_refl _)
    rw [hr] at hr2
    injection hr2 with e1 e2
    subst e1 e2
    exact .inr (h5.lt k hk).1
  · by_cases hroom : n + m ≤ cap
    · have hfit : n * i.size + news.length ≤ cur.size := by rw [hl, hcs, hsize, ← Nat.add_mul]; exact Nat.mul_le_mul_right _ hroom
      have hr' := run_append_room (P := P) w t ty e i ht hi g n cap cur hg a m c news (by rw [hsize]; exact hl) hnews h1 hroom hfit
      rw [hr] at hr'
      injection hr' with e1 e2
      subst e1
      exact .inl hk
    · have holds : ∀ j u, xs[j]? = some u → w.cell? ((⟨g, 0, none⟩ : Addr).add j) = some u := hown.cells (g := g) rfl
      have hr' := run_append_grow (P := P) w t ty e i z ht hi hz ⟨g, 0, none⟩ n cap xs (by rw [hsize]; exact hown.1) holds a m c news (by rw [hsize]; exact hl) hnews (by omega) (by unfold maxLen at h63; omega) (growslice_fits (by omega) (by rw [hby]; exact hbytes))
      rw [hr] at hr'
      injection hr' with e1 e2
      subst e1
      have : w.heap.size = k := by simpa [Value.ownBlock] using hk
      exact .inr (by omega)
theorem wpList_append_at {P : Program} (w : World) {ops : Array Oper} {rest : List Oper} {o : Oper} {a : Act} {Q : Exit → Act → World → Prop} (hgd : o.guard = none) (s x : Operand) (t : TypeId)
    (ho : o.op = .call { callee := .builtin .append, args := #[s, x], argTypes := #[t, t] })
    (base : Nat) (e : TypeId) (i : TypeInfo) (z : Value) (size bytes : Nat) (ht : P.underlying t = some (.slice e)) (hi : P.info? e = some i) (hz : i.zero = some z)
    (hsize : i.size = size) (hby : i.bytes = bytes) (hzs : z.cells.size = size) (hsz : 0 < size)
    (v : Value) (n : Nat) (xs : List Value) (hs : a.eval s = v) (hown : w.ownsRow base e size v n xs)
    (ad : Addr) (m c : Nat) (news : List Value) (hx : a.eval x = .slice (some ad) m c) (hl : news.length = m * size) (hnews : ∀ j u, news[j]? = some u → w.cell? (ad.add j) = some u) (h1 : ∀ u ∈ news, u.oneCell' = true)
    (h63 : n + m ≤ maxLen) (hbytes : (n + m) * bytes ≤ 140737488355328) (hbase : base ≤ w.heap.size)
    (h : ∀ v' w', w'.ownsRow base e size v' (n + m) (xs ++ news) → w.grownBy w' v.ownBlock → (v' = .slice none 0 0 ↔ v = .slice none 0 0 ∧ m = 0) → (∀ k, v'.ownBlock = some k → v.ownBlock = some k ∨ w.heap.size ≤ k) → wpList P ops Q rest (a.put o.dst v') w') : wpList P ops Q (o :: rest) a w := by
  refine wpList_plain hgd fun K hK => ?_
  obtain ⟨v', w', hr, h2, h3, h4, h5⟩ := run_append_at (P := P) w base t o.type e i z size bytes ht hi hz hsize hby hzs hsz v n xs hown ad m c news hl hnews h1 h63 hbytes hbase
  unfold Oper.wp
  simp [execOp, ho, resolve, invoke, builtin, hs, hx, hr, Result.andThen]
  exact hK _ _ (h v' w' h2 h3 h4 h5)
/-- The row at o of block g holds n digits of z. -/
def RowP (w : World) (g o n : Nat) (z : Int) : Prop := g < w.heap.size ∧ ∀ j, j < n → w.cell? ⟨g, o + j, none⟩ = some (.int .i64 (Ten.lz z j))
theorem RowP.row {w : World} {g o n : Nat} {z : Int} (h : RowP w g o n z) : RowD w w.heap.size (some ⟨g, o, none⟩) n z := fun _ => ⟨g, o, rfl, h.1, h.2⟩
theorem RowP.of {w : World} {B g o n : Nat} {z : Int} (h : RowD w B (some ⟨g, o, none⟩) n z) (hg : g < w.heap.size) : RowP w g o n z := ⟨hg, fun j hj => by
  obtain ⟨g', o', e, _, hc⟩ := h (by omega)
  injection e with e
  injection e with e1 e2
  subst e1 e2
  exact hc j hj⟩
theorem RowP.below {w w' : World} {g o n : Nat} {z : Int} (h : RowP w g o n z) (hb : Below w.heap.size w w') : RowP w' g o n z :=
  ⟨Nat.lt_of_lt_of_le h.1 hb.size, fun j hj => (below_at hb (o + j) h.1).trans (h.2 j hj)⟩
theorem RowP.grown {w w' : World} {row : Option Nat} {g o n : Nat} {z : Int} (h : RowP w g o n z) (hg : w.grownBy w' row) (hne : row ≠ some g) : RowP w' g o n z :=
  ⟨Nat.lt_of_lt_of_le h.1 hg.size, fun j hj => (World.cell?_of_block (hg.block g h.1 (fun e => hne e.symm))).trans (h.2 j hj)⟩
theorem RowP.vals {w : World} {g o n : Nat} {z : Int} (h : RowP w g o n z) : ∀ j u, (vals (dl z n))[j]? = some u → w.cell? ((⟨g, o, none⟩ : Addr).add j) = some u := by
  intro j u hu
  have hj : j < n := by
    rcases Nat.lt_or_ge j n with c | c
    · exact c
    · rw [List.getElem?_eq_none (by unfold Go.Proofs.YtkhebidmfjbhaaaGreatDoor.vals; rw [List.length_map, dl_len]; exact c)] at hu
      cases hu
  have e : u = .int .i64 (Ten.lz z j) := by
    unfold Go.Proofs.YtkhebidmfjbhaaaGreatDoor.vals dl at hu
    simp [hj] at hu
    rw [← hu]
    have := Ten.lz_bd z j
    congr 1
    omega
  rw [e, ← h.2 j hj]
  have hadd : (⟨g, o, none⟩ : Addr).add j = ⟨g, o + j, none⟩ := by unfold Addr.add; split <;> simp_all
  rw [hadd]
end Go.Proofs.YtkhebidmfjbhaaaGreatDoor
namespace Go.Proofs.YtkhebidmfjbhaaaGreatDoor
open Go.RowKit
open Go

theorem infoZ : (Tryz.prog.info? 74).map (fun i => (i.zero, i.size, i.bytes)) = some (some (.agg #[.int .u64 0, .slice none 0 0, .bool false]), 3, 40) := by kernel_rfl
theorem undZs : Tryz.prog.underlying 109 = some (.slice 74) := by kernel_rfl
/-- Every third value is no word. -/
def PatL (l : List Value) : Prop := ∀ i u, l[3 * i + 1]? = some u → ∀ t, u ≠ .int .u64 t
def PatW (W : World) (v : Value) : Prop := ∀ g, v.ownBlock = some g → ∀ i u, W.cell? ⟨g, 3 * i + 1, none⟩ = some u → ∀ t, u ≠ .int .u64 t
theorem PatL.append {l m : List Value} {n : Nat} (h : PatL l) (h' : PatL m) (hn : l.length = n * 3) : PatL (l ++ m) := by
  intro i u hu
  by_cases hi : 3 * i + 1 < l.length
  · rw [List.getElem?_append_left hi] at hu
    exact h i u hu
  · rw [List.getElem?_append_right (by omega)] at hu
    have e : 3 * i + 1 - l.length = 3 * (i - n) + 1 := by omega
    rw [e] at hu
    exact h' _ _ hu
theorem PatL.one (p : Value) (a : Option Addr) (n c : Nat) (b : Bool) : PatL [p, .slice a n c, .bool b] := by
  intro i u hu t
  match i, hu with
  | 0, hu => injection hu with hu; rw [← hu]; exact fun e => by cases e
  | i + 1, hu =>
    have h1 := (List.getElem?_eq_some_iff.1 hu).1
    simp at h1
    omega
theorem PatL.zeros (n : Nat) : PatL (Builtin.zeroCells #[.int .u64 0, .slice none 0 0, .bool false] n).toList := by
  intro i u hu t
  rw [Array.getElem?_toList] at hu
  obtain ⟨h1, h2⟩ := Array.getElem?_eq_some_iff.1 hu
  have h3 : u = #[Value.int .u64 0, .slice none 0 0, .bool false][(3 * i + 1) % 3]! := by
    rw [← h2]
    simp [Builtin.zeroCells]
  rw [show (3 * i + 1) % 3 = 1 by omega] at h3
  rw [h3]
  exact fun e => by cases e
theorem cell_new (w : World) (cur : Array Value) (e : TypeId) (o : Nat) : (w.alloc (.cells cur e)).cell? ⟨w.heap.size, o, none⟩ = cur[o]? := by
  rw [World.cell?_alloc_at _ _ _ _ rfl]
theorem PatW.new (w : World) (cur : Array Value) (e : TypeId) (n c : Nat) (h : PatL cur.toList) : PatW (w.alloc (.cells cur e)) (.slice (some ⟨w.heap.size, 0, none⟩) n c) := by
  intro g hg i u hu
  simp [Value.ownBlock] at hg
  subst hg
  rw [cell_new] at hu
  exact h i u (by rw [Array.getElem?_toList]; exact hu)
theorem PatW.none (w : World) (n c : Nat) : PatW w (.slice .none n c) := fun g hg => by simp [Value.ownBlock] at hg
theorem PatW.kept {w w' : World} {v : Value} (h : PatW w v) (hs : ∀ g, v.ownBlock = some g → w'.heap[g]? = w.heap[g]?) : PatW w' v := by
  intro g hg i u hu
  rw [World.cell?_of_block (w := w) (a := ⟨g, 3 * i + 1, Option.none⟩) (hs g hg)] at hu
  exact h g hg i u hu
/-- Another integer's limbs do not lie there. -/
theorem NatV.other {w w' : World} {p v : Value} {x : Int} {g : Nat} (h : NatV w p v x) (hp : ∀ i u, w.cell? ⟨g, 3 * i + 1, none⟩ = some u → ∀ t, u ≠ .int .u64 t) (hs : ∀ k, k < w.heap.size → k ≠ g → w'.heap[k]? = w.heap[k]?) (hz : w.heap.size ≤ w'.heap.size) : NatV w' p v x := by
  have h0 := h.1
  rcases Nat.lt_or_ge 2 (nl x) with h2 | h2
  · obtain ⟨g', o, n, e1, e2, e3, rfl, rfl, hg', hc⟩ := h.large h2
    have hne : g' ≠ g := by
      rintro rfl
      obtain ⟨j, hj, i, hi⟩ : ∃ j, j < 3 ∧ ∃ i, o + j = 3 * i + 1 := by
        have : o % 3 = 0 ∨ o % 3 = 1 ∨ o % 3 = 2 := by omega
        rcases this with e | e | e
        · exact ⟨1, by omega, o / 3, by omega⟩
        · exact ⟨0, by omega, o / 3, by omega⟩
        · exact ⟨2, by omega, o / 3 + 1, by omega⟩
      have := hc j (by omega)
      rw [hi] at this
      exact hp i _ this _ rfl
    refine NatV.long (B := g' + 1) h0 e1 (by omega) (by omega) (fun _ => ⟨g', o, rfl, by omega, fun j hj => ?_⟩) (by omega)
    rw [World.cell?_of_block (w := w) (a := ⟨g', o + j, Option.none⟩) (hs g' hg' hne)]
    exact hc j hj
  · obtain ⟨rfl, rfl⟩ := h.small h2
    exact NatV.word h0 h2
/-- The values of the integers ts, one behind the other. -/
def flat3 : List (Value × Value × Bool) → List Value
  | [] => []
  | (p, v, b) :: l => p :: v :: .bool b :: flat3 l
theorem flat3_snoc : ∀ l p v b, flat3 (l ++ [(p, v, b)]) = flat3 l ++ [p, v, .bool b]
  | [], _, _, _ => rfl
  | (p, v, b) :: l, _, _, _ => by simp only [List.cons_append, flat3, flat3_snoc l]
theorem flat3_get : ∀ (l : List (Value × Value × Bool)) (i : Nat) (h : i < l.length), (flat3 l)[i * 3]? = some l[i].1 ∧ (flat3 l)[i * 3 + 1]? = some l[i].2.1 ∧ (flat3 l)[i * 3 + 2]? = some (.bool l[i].2.2)
  | (p, v, b) :: l, 0, _ => ⟨rfl, rfl, rfl⟩
  | (p, v, b) :: l, i + 1, h => by
    have e := flat3_get l i (by simpa using h)
    have e0 : (i + 1) * 3 = i * 3 + 1 + 1 + 1 := by omega
    refine ⟨?_, ?_, ?_⟩
    · rw [e0]; exact e.1
    · rw [show (i + 1) * 3 + 1 = i * 3 + 1 + 1 + 1 + 1 by omega]; exact e.2.1
    · rw [show (i + 1) * 3 + 2 = i * 3 + 2 + 1 + 1 + 1 by omega]; exact e.2.2
/-- The slice v, of the call's own from block B on, holds the integers l. -/
structure OwnL (W : World) (B : Nat) (v : Value) (l : List Int) : Prop where
  ex : ∃ ts : List (Value × Value × Bool), ∃ hl : ts.length = l.length, W.ownsRow B 74 3 v l.length (flat3 ts) ∧ ∀ i (h : i < l.length), IntV W (ts[i]'(hl ▸ h)).1 (ts[i]'(hl ▸ h)).2.1 (ts[i]'(hl ▸ h)).2.2 l[i]
  pat : PatW W v
theorem OwnL.nil (W : World) (B : Nat) : OwnL W B (.slice none 0 0) [] := ⟨⟨[], rfl, World.ownsRow_nil _ _ _ _, fun i h => by cases h⟩, PatW.none _ _ _⟩
theorem OwnL.lt {W : World} {B : Nat} {v : Value} {l : List Int} (h : OwnL W B v l) : ∀ k, v.ownBlock = some k → B ≤ k ∧ k < W.heap.size := by
  obtain ⟨ts, hl, ho, -⟩ := h.ex
  exact ho.lt
theorem OwnL.kept {W W' : World} {B : Nat} {v : Value} {l : List Int} (h : OwnL W B v l) (hb : Below W.heap.size W W') : OwnL W' B v l := by
  obtain ⟨ts, hl, ho, hi⟩ := h.ex
  refine ⟨⟨ts, hl, ?_, fun i hi' => (hi i hi').below hb⟩, h.pat.kept (fun g hg => hb.block g (ho.lt g hg).2)⟩
  refine ⟨ho.1, ?_⟩
  rcases ho.2 with hn | ⟨g, cap, cur, rfl, hB, hg, rest⟩
  · exact .inl hn
  · refine .inr ⟨g, cap, cur, rfl, hB, ?_, rest⟩
    rw [hb.block g (Array.getElem?_eq_some_iff.1 hg).1]
    exact hg
theorem OwnL.numL {W : World} {B : Nat} {v : Value} {l : List Int} (h : OwnL W B v l) : NumL W v l := by
  obtain ⟨ts, hl, ho, hi⟩ := h.ex
  rcases ho.2 with ⟨rfl, hn⟩ | ⟨g, cap, cur, rfl, hB, hg, hc, -, -, htake⟩
  · exact ⟨none, 0, by rw [hn], by omega, fun h0 => by omega⟩
  · refine ⟨some ⟨g, 0, none⟩, cap, rfl, hc, fun _ => ⟨g, 0, rfl, (Array.getElem?_eq_some_iff.1 hg).1, fun i h => ?_⟩⟩
    have hcell : ∀ j u, (flat3 ts)[j]? = some u → W.cell? ⟨g, 0 + j, none⟩ = some u := fun j u hu => by
      have := ho.cells (g := g) rfl j u hu
      rwa [Addr.add_lit] at this
    obtain ⟨e0, e1, e2⟩ := flat3_get ts i (by omega)
    have g0 := hcell _ _ e0
    have g1 := hcell _ _ e1
    have g2 := hcell _ _ e2
    exact ⟨_, _, _, g0, by rw [Nat.add_assoc]; exact g1, by rw [Nat.add_assoc]; exact g2, hi i h⟩
/-- One more integer. -/
theorem OwnL.snoc {W : World} {B : Nat} {v : Value} {l : List Int} (h : OwnL W B v l) (hB : B ≤ W.heap.size) (ty : TypeId) (ad : Addr) (c : Nat) (p q : Value) (b : Bool) (x : Int) (h0 : W.cell? (ad.add 0) = some p) (h1 : W.cell? (ad.add 1) = some q) (h2 : W.cell? (ad.add 2) = some (.bool b)) (hx : IntV W p q b x) (hlen : l.length ≤ 1000000000000) :
    ∃ v' W', (Builtin.append_ #[109, 109] ty #[v, .slice (some ad) 1 c]).run Tryz.prog W = .ok v' W' ∧ OwnL W' B v' (l ++ [x]) ∧ W.grownBy W' v.ownBlock ∧ (∀ k, v'.ownBlock = some k → v.ownBlock = some k ∨ W.heap.size ≤ k) ∧ ∀ p q b x, IntV W p q b x → IntV W' p q b x := by
  obtain ⟨i0, hi, hz0, hz1, hz2⟩ := info_parts infoZ
  obtain ⟨ts, hl, ho, hI⟩ := h.ex
  obtain ⟨t, a, n, rfl, rfl, -, -, -, -, -, -⟩ := hx.1.form
  have hnews : ∀ j u, [Value.int .u64 t, .slice a n n, .bool b][j]? = some u → W.cell? (ad.add j) = some u := by
    intro j u hu
    match j, hu with
    | 0, hu => simp at hu; subst hu; exact h0
    | 1, hu => simp at hu; subst hu; exact h1
    | 2, hu => simp at hu; subst hu; exact h2
    | j + 3, hu => simp at hu
  have hone : ∀ u ∈ [Value.int .u64 t, .slice a n n, .bool b], u.oneCell' = true := by
    intro u hu
    simp at hu
    rcases hu with rfl | rfl | rfl <;> rfl
  obtain ⟨v', W', hr, hown, hgr, hnil, hblk⟩ := run_append_at (P := Tryz.prog) W B 109 ty 74 i0 (.agg #[.int .u64 0, .slice none 0 0, .bool false]) 3 40 undZs hi hz0 hz1 hz2 rfl (by decide) v l.length (flat3 ts) ho ad 1 c [.int .u64 t, .slice a n n, .bool b] rfl hnews hone (by unfold maxLen; omega) (by omega) hB
  have hother : ∀ p q b x, IntV W p q b x → IntV W' p q b x := by
    intro p q b x hi
    refine ⟨?_, hi.2⟩
    cases hv : v.ownBlock with
    | none => exact hi.1.below ⟨hgr.os, hgr.tape, hgr.output, hgr.size, fun k hk => hgr.block k hk (by rw [hv]; simp)⟩
    | some g => exact hi.1.other (h.pat g hv) (fun k hk hne => hgr.block k hk (by rw [hv]; intro e; injection e with e; exact hne e)) hgr.size
  refine ⟨v', W', hr, ⟨⟨ts ++ [(.int .u64 t, .slice a n n, b)], by simp [hl], ?_, ?_⟩, ?_⟩, hgr, hblk, hother⟩
  · rw [flat3_snoc, List.length_append]
    exact hown
  · intro i h'
    rw [List.length_append, List.length_singleton] at h'
    by_cases hlt : i < l.length
    · have e1 : (ts ++ [(Value.int .u64 t, Value.slice a n n, b)])[i]'(by simp; omega) = ts[i]'(by omega) := List.getElem_append_left (by omega)
      have e2 : (l ++ [x])[i]'(by simp; omega) = l[i] := List.getElem_append_left hlt
      rw [e2]
      simp only [e1]
      exact hother _ _ _ _ (hI i hlt)
    · have e0 : i = l.length := by omega
      subst e0
      have e1 : (ts ++ [(Value.int .u64 t, Value.slice a n n, b)])[l.length]'(by simp; omega) = (Value.int .u64 t, Value.slice a n n, b) := by
        rw [List.getElem_append_right (by omega)]; simp [hl]
      have e2 : (l ++ [x])[l.length]'(by simp) = x := by rw [List.getElem_append_right (by omega)]; simp
      rw [e2]
      simp only [e1]
      exact hother _ _ _ _ hx
  · rcases ho.2 with ⟨rfl, hn0⟩ | ⟨g, cap, cur, rfl, hbg, hg, hnc, hcm, hcs, htake⟩
    · have hr' := run_append_nil (P := Tryz.prog) W 109 ty 74 i0 _ undZs hi hz0 ad 1 c [.int .u64 t, .slice a n n, .bool b] (by rw [hz1]; rfl) hnews (by omega) (by omega) (by rw [hz2]; omega)
      rw [hr] at hr'
      injection hr' with e1 e2
      subst e1 e2
      refine PatW.new W.drew _ _ _ _ ?_
      simp only [Array.toList_append]
      exact (PatL.one _ _ _ _ _).append (PatL.zeros _) (n := 1) rfl
    · have hpat : PatL cur.toList := fun i u hu => h.pat g rfl i u (by
        rw [cell_of_row W g _ cur _ _ hg]
        rw [Array.getElem?_toList] at hu
        exact hu)
      by_cases hroom : l.length + 1 ≤ cap
      · have hfit : l.length * i0.size + [Value.int .u64 t, .slice a n n, .bool b].length ≤ cur.size := by rw [hcs, hz1]; simp; omega
        have hr' := run_append_room (P := Tryz.prog) W 109 ty 74 i0 undZs hi g l.length cap cur hg ad 1 c [.int .u64 t, .slice a n n, .bool b] (by rw [hz1]; rfl) hnews hone hroom hfit
        rw [hr] at hr'
        injection hr' with e1 e2
        subst e1 e2
        intro g' hg' i u hu
        simp [Value.ownBlock] at hg'
        subst hg'
        rw [cell_of_row _ g _ _ _ _ (setRow_heap W g cur _ _ _ hg)] at hu
        have key : PatL (cur.toList.take (l.length * i0.size) ++ [Value.int .u64 t, .slice a n n, .bool b] ++ cur.toList.drop (l.length * i0.size + [Value.int .u64 t, .slice a n n, .bool b].length)) := by
          have hlt : (cur.toList.take (l.length * i0.size)).length = l.length * 3 := by rw [List.length_take, hz1]; simp; omega
          refine PatL.append (n := l.length + 1) (PatL.append (n := l.length) ?_ (PatL.one _ _ _ _ _) hlt) ?_ (by rw [List.length_append, hlt]; simp; omega)
          · intro j u hu
            rw [List.getElem?_take] at hu
            split at hu
            · exact hpat j u hu
            · cases hu
          · intro j u hu
            rw [List.getElem?_drop, hz1] at hu
            have e : l.length * 3 + [Value.int .u64 t, .slice a n n, .bool b].length + (3 * j + 1) = 3 * (l.length + 1 + j) + 1 := by simp; omega
            rw [e] at hu
            exact hpat _ u hu
        exact key i u (by simpa using hu)
      · have holds : ∀ j u, (flat3 ts)[j]? = some u → W.cell? ((⟨g, 0, none⟩ : Addr).add j) = some u := ho.cells (g := g) rfl
        have hr' := run_append_grow (P := Tryz.prog) W 109 ty 74 i0 _ undZs hi hz0 ⟨g, 0, none⟩ l.length cap (flat3 ts) (by rw [hz1]; exact ho.1) holds ad 1 c [.int .u64 t, .slice a n n, .bool b] (by rw [hz1]; rfl) hnews (by omega) (by omega) (growslice_fits (by omega) (by rw [hz2]; omega))
        rw [hr] at hr'
        injection hr' with e1 e2
        subst e1 e2
        refine PatW.new W.drew _ _ _ _ ?_
        simp only [Array.toList_append]
        refine PatL.append (n := l.length + 1) (PatL.append (n := l.length) ?_ (PatL.one _ _ _ _ _) ho.1) (PatL.zeros _) (by rw [List.length_append, ho.1]; simp; omega)
        rw [← htake]
        intro j u hu
        rw [List.getElem?_take] at hu
        split at hu
        · exact hpat j u hu
        · cases hu
end Go.Proofs.YtkhebidmfjbhaaaGreatDoor
namespace Go.Proofs.YtkhebidmfjbhaaaGreatDoor
open Go.RowKit

theorem sterms_go {f : Nat} {n d m k : Int} (h1 : m < (if n.fmod d = 0 then n.fdiv d else n.fdiv d + 1) * k) : sterms (f + 1) n d m k = n.fdiv d :: sterms f k (m - n.fdiv d * k) d (n.fmod d) := by
  conv => lhs; unfold sterms
  rw [if_pos h1]
theorem sterms_end {f : Nat} {n d m k : Int} (h1 : ¬ m < (if n.fmod d = 0 then n.fdiv d else n.fdiv d + 1) * k) : sterms (f + 1) n d m k = [if n.fmod d = 0 then n.fdiv d else n.fdiv d + 1] := by
  conv => lhs; unfold sterms
  rw [if_neg h1]
theorem sterms_len : ∀ (j f : Nat) (n d m k : Int), Iv n d m k → d < 2 ^ j → (sterms f n d m k).length ≤ 2 * j + 2
  | 0, f, n, d, m, k, h, hd => by
    have := h.d0
    omega
  | j + 1, 0, n, d, m, k, h, hd => by simp [sterms]
  | j + 1, 1, n, d, m, k, h, hd => by
    by_cases h1 : m < (if n.fmod d = 0 then n.fdiv d else n.fdiv d + 1) * k
    · rw [sterms_go h1]; simp [sterms]
    · rw [sterms_end h1]; simp
  | j + 1, f + 2, n, d, m, k, h, hd => by
    by_cases h1 : m < (if n.fmod d = 0 then n.fdiv d else n.fdiv d + 1) * k
    · have R := h.round h1
      rw [sterms_go h1]
      have hv := R.iv
      have sk := R.sk
      have rd := R.rd
      generalize m - n.fdiv d * k = s at *
      generalize n.fmod d = r at *
      by_cases h2 : d < (if k.fmod s = 0 then k.fdiv s else k.fdiv s + 1) * r
      · have R2 := hv.round h2
        rw [sterms_go h2]
        have hlt : d - k.fdiv s * r < 2 ^ j := by
          have s1 := R2.sk
          have q1 : 1 ≤ k.fdiv s := by
            have hn := R2.hn
            have h3 := R2.rd
            have h4 := R2.r0
            rcases Int.lt_or_le 0 (k.fdiv s) with c | c
            · omega
            · have h5 := Int.mul_nonneg (show 0 ≤ s by have := hv.d0; omega) (show 0 ≤ -k.fdiv s by omega)
              rw [Int.mul_neg] at h5
              omega
          have h6 : 1 * r ≤ k.fdiv s * r := Int.mul_le_mul_of_nonneg_right q1 (by have := hv.k0; omega)
          rw [Int.pow_succ] at hd
          omega
        have ih := sterms_len j f r (d - k.fdiv s * r) s (k.fmod s) R2.iv hlt
        simp only [List.length_cons]
        omega
      · rw [sterms_end h2]; simp
    · rw [sterms_end h1]; simp
theorem sterms_le : ∀ (f : Nat) (n d m k B : Int), Iv n d m k → n ≤ B → d ≤ B → m ≤ B → k ≤ B → ∀ c, c ∈ sterms f n d m k → 0 ≤ c ∧ c ≤ B
  | 0, _, _, _, _, _, _, _, _, _, _, c, hc => by cases hc
  | f + 1, n, d, m, k, B, h, hn, hd, hm, hk, c, hc => by
    obtain ⟨e, r0, rd⟩ := fdm (n := n) h.d0
    have q0 := fdiv_pos0 (Int.le_of_lt h.n0) h.d0
    have hqn : n.fdiv d ≤ n := by
      have h1 : 1 * n.fdiv d ≤ d * n.fdiv d := Int.mul_le_mul_of_nonneg_right (by have := h.d0; omega) q0
      omega
    by_cases h1 : m < (if n.fmod d = 0 then n.fdiv d else n.fdiv d + 1) * k
    · have R := h.round h1
      rw [sterms_go h1] at hc
      rcases List.mem_cons.1 hc with rfl | hc
      · exact ⟨q0, by omega⟩
      · exact sterms_le f k (m - n.fdiv d * k) d (n.fmod d) B R.iv hk (by have := R.sk; omega) hd (by omega) c hc
    · rw [sterms_end h1] at hc
      rw [List.mem_singleton.1 hc]
      split
      · exact ⟨q0, by omega⟩
      · rename_i hr
        refine ⟨by omega, ?_⟩
        have h2 : 2 * n.fdiv d ≤ d * n.fdiv d := Int.mul_le_mul_of_nonneg_right (by omega) q0
        omega
theorem bp_pow2 : ∀ k : Nat, Ten.bp k ≤ 2 ^ (4 * k)
  | 0 => by rw [Ten.bp_zero]; decide
  | k + 1 => by
    have h := bp_pow2 k
    have hp := Ten.bp_pos k
    rw [Ten.bp_succ, show 4 * (k + 1) = 4 * k + 1 + 1 + 1 + 1 by omega, Int.pow_succ, Int.pow_succ, Int.pow_succ, Int.pow_succ]
    omega
/-- What is known of the terms. -/
structure Tm (L : List Int) : Prop where
  ne : L ≠ []
  pos : ∀ c, c ∈ L.tail → 1 ≤ c
  dn : ∀ c, c ∈ L → dn c ≤ 1000
  len : L.length ≤ 8002
theorem Tm.of {n d m k : Int} {f : Nat} (h : Iv n d m k) (hf : (d + k).toNat < f) (hn : Go.Proofs.YtkhebidmfjbhaaaGreatDoor.dn n ≤ 1000) (hd : Go.Proofs.YtkhebidmfjbhaaaGreatDoor.dn d ≤ 1000) (hm : Go.Proofs.YtkhebidmfjbhaaaGreatDoor.dn m ≤ 1000) (hk : Go.Proofs.YtkhebidmfjbhaaaGreatDoor.dn k ≤ 1000) : Tm (sterms f n d m k) := by
  obtain ⟨h1, h2, -, -⟩ := sterms_val f n d m k h hf
  have n0 := h.n0
  have d0 := h.d0
  have m0 := h.m0
  have k0 := h.k0
  have a1 := abs_lt hn
  have a2 := abs_lt hd
  have a3 := abs_lt hm
  have a4 := abs_lt hk
  refine ⟨h1, h2, fun c hc => ?_, ?_⟩
  · obtain ⟨c0, c1⟩ := sterms_le f n d m k (Ten.bp 1000 - 1) h (by omega) (by omega) (by omega) (by omega) c hc
    exact dn_le c0 (by omega) (by omega)
  · have := sterms_len 4000 f n d m k h (Int.lt_of_lt_of_le (by omega) (bp_pow2 1000))
    omega
end Go.Proofs.YtkhebidmfjbhaaaGreatDoor
namespace Go.Proofs.YtkhebidmfjbhaaaGreatDoor
open Go.RowKit

/-- Decimal digits, at least one. -/
def Dg (l : List UInt8) : Prop := l ≠ [] ∧ ∀ c, c ∈ l → isDig c = true
def sgl (mn : Bool) : List UInt8 := if mn = true then [45] else []
/-- What stands behind the front digits. -/
def tlm (mk : Int) (bk : ByteArray) : List UInt8 := if mk = 0 then [] else UInt8.ofNat mk.toNat :: bk.data.toList
/-- s is a number as written. -/
structure Wr (s : ByteArray) (mn : Bool) (mk : Int) (fr bk : ByteArray) : Prop where
  form : s.data.toList = sgl mn ++ (fr.data.toList ++ tlm mk bk)
  fd : Dg fr.data.toList
  mark : mk = 0 ∧ bk = ⟨#[]⟩ ∨ (mk = 46 ∨ mk = 47) ∧ Dg bk.data.toList
theorem isDig_iff2 (c : UInt8) : isDig c = true ↔ 48 ≤ c.toNat ∧ c.toNat ≤ 57 := by unfold isDig; simp
/-- Digits end at the first sign that is none. -/
theorem dig_split : ∀ (x y : List UInt8) (c : UInt8) (r u : List UInt8), (∀ a, a ∈ x → isDig a = true) → (∀ a, a ∈ y → isDig a = true) → isDig c = false → x ++ c :: r = y ++ u → (u = [] → False) ∧ ∀ d v, u = d :: v → isDig d = false → x = y ∧ c = d ∧ r = v
  | [], [], c, r, u, _, _, hc, e => by
    refine ⟨fun h => (by rw [h] at e; cases e), fun d v h hd => ?_⟩
    rw [h] at e
    injection e with e1 e2
    exact ⟨rfl, e1, e2⟩
  | [], b :: y, c, r, u, _, hy, hc, e => by
    injection e with e1 e2
    have h1 := hy b List.mem_cons_self
    rw [← e1, hc] at h1
    cases h1
  | a :: x, [], c, r, u, hx, _, hc, e => by
    refine ⟨fun h => (by rw [h] at e; cases e), fun d v h hd => ?_⟩
    rw [h] at e
    injection e with e1 e2
    have h1 := hx a List.mem_cons_self
    rw [e1, hd] at h1
    cases h1
  | a :: x, b :: y, c, r, u, hx, hy, hc, e => by
    injection e with e1 e2
    obtain ⟨h1, h2⟩ := dig_split x y c r u (fun a h => hx a (List.mem_cons_of_mem _ h)) (fun a h => hy a (List.mem_cons_of_mem _ h)) hc e2
    refine ⟨h1, fun d v h hd => ?_⟩
    obtain ⟨h3, h4, h5⟩ := h2 d v h hd
    exact ⟨by rw [e1, h3], h4, h5⟩
theorem tl_mark {mk : Int} {bk : ByteArray} (h : mk = 46 ∨ mk = 47) : tlm mk bk = UInt8.ofNat mk.toNat :: bk.data.toList ∧ isDig (UInt8.ofNat mk.toNat) = false := by
  refine ⟨by unfold tlm; rw [if_neg (by omega)], ?_⟩
  rcases h with rfl | rfl <;> decide
theorem mark_inj {a b : Int} (ha : a = 46 ∨ a = 47) (hb : b = 46 ∨ b = 47) (h : UInt8.ofNat a.toNat = UInt8.ofNat b.toNat) : a = b := by
  rcases ha with rfl | rfl <;> rcases hb with rfl | rfl
  · rfl
  · exact absurd h (by decide)
  · exact absurd h (by decide)
  · rfl
theorem sg_head {l : List UInt8} (h : Dg l) (r u : List UInt8) : l ++ r ≠ 45 :: u := by
  intro e
  obtain ⟨h1, h2⟩ := h
  cases l with
  | nil => exact h1 rfl
  | cons a l =>
    injection e with e1 e2
    have := h2 a List.mem_cons_self
    rw [e1] at this
    exact absurd this (by decide)
/-- A text is a number as written in one way. -/
theorem Wr.one {s : ByteArray} {mn mn' : Bool} {mk mk' : Int} {fr bk fr' bk' : ByteArray} (h : Wr s mn mk fr bk) (h' : Wr s mn' mk' fr' bk') : mn = mn' ∧ mk = mk' ∧ fr = fr' ∧ bk = bk' := by
  have e := h.form.symm.trans h'.form
  have em : mn = mn' ∧ fr.data.toList ++ tlm mk bk = fr'.data.toList ++ tlm mk' bk' := by
    cases mn <;> cases mn'
    · exact ⟨rfl, e⟩
    · exact absurd e (sg_head h.fd _ _)
    · exact absurd e.symm (sg_head h'.fd _ _)
    · injection e with _ e
      exact ⟨rfl, e⟩
  obtain ⟨e1, e2⟩ := em
  refine ⟨e1, ?_⟩
  rcases h.mark with ⟨rfl, rfl⟩ | ⟨m1, d1⟩
  · rcases h'.mark with ⟨rfl, rfl⟩ | ⟨m2, d2⟩
    · unfold tlm at e2
      rw [if_pos rfl, List.append_nil, List.append_nil] at e2
      exact ⟨rfl, ba_ext e2, rfl⟩
    · obtain ⟨t1, t2⟩ := tl_mark (bk := bk') m2
      rw [t1] at e2
      exact absurd ((dig_split _ _ _ _ _ h'.fd.2 h.fd.2 t2 e2.symm).1 (by unfold tlm; rw [if_pos rfl])) (fun h => h)
  · obtain ⟨t1, t2⟩ := tl_mark (bk := bk) m1
    rw [t1] at e2
    rcases h'.mark with ⟨rfl, rfl⟩ | ⟨m2, d2⟩
    · exact absurd ((dig_split _ _ _ _ _ h.fd.2 h'.fd.2 t2 e2).1 (by unfold tlm; rw [if_pos rfl])) (fun h => h)
    · obtain ⟨t3, t4⟩ := tl_mark (bk := bk') m2
      obtain ⟨g1, g2, g3⟩ := (dig_split _ _ _ _ _ h.fd.2 h'.fd.2 t2 e2).2 _ _ t3 t4
      exact ⟨mark_inj m1 m2 g2, ba_ext g1, ba_ext g3⟩
/-- The digits of D, read as a number. -/
theorem vald_lt : ∀ (n : Nat) (l : List UInt8), l.length = n → (∀ c, c ∈ l → isDig c = true) → ((vald l : Nat) : Int) < Ten.bp n ∧ ∀ k (hk : k < l.length), ((l[k]'hk).toNat : Int) = 48 + Ten.lz (vald l) (n - 1 - k)
  | 0, l, hl, _ => by
    have e : l = [] := List.eq_nil_of_length_eq_zero hl
    subst e
    exact ⟨by rw [Ten.bp_zero]; decide, fun k hk => by cases hk⟩
  | n + 1, l, hl, h => by
    have hne : l ≠ [] := by intro e; rw [e] at hl; cases hl
    obtain ⟨d, c, rfl⟩ : ∃ d c, l = d ++ [c] := ⟨l.dropLast, l.getLast hne, (List.dropLast_concat_getLast hne).symm⟩
    have hd : d.length = n := by simp at hl; exact hl
    obtain ⟨h1, h2⟩ := vald_lt n d hd (fun c hc => h c (List.mem_append_left _ hc))
    have h3 := (isDig_iff2 c).1 (h c (by simp))
    rw [vald_snoc]
    have e : ((10 * vald d + (c.toNat - 48) : Nat) : Int) = 10 * (vald d : Int) + (c.toNat - 48 : Nat) := by omega
    rw [e]
    refine ⟨by rw [Ten.bp_succ]; omega, fun k hk => ?_⟩
    by_cases hk2 : k < d.length
    · rw [List.getElem_append_left hk2, h2 k hk2]
      have e3 : n + 1 - 1 - k = (n - 1 - k) + 1 := by omega
      have e4 : Ten.lz (10 * (vald d : Int) + (c.toNat - 48 : Nat)) ((n - 1 - k) + 1) = Ten.lz ((10 * (vald d : Int) + (c.toNat - 48 : Nat)) / Ten.bp 1) (n - 1 - k) := by rw [Ten.lz_shift, Nat.add_comm]
      rw [e3, e4, Ten.bp_one, show (10 * (vald d : Int) + ((c.toNat - 48 : Nat) : Int)) / 10 = vald d by omega]
    · have hk3 : k = d.length := by simp at hk; omega
      subst hk3
      rw [List.getElem_append_right (Nat.le_refl _)]
      rw [show n + 1 - 1 - d.length = 0 by omega]
      unfold Ten.lz
      rw [Ten.div_bp_zero]
      simp
      omega
theorem digs_of {D : ByteArray} (h : Dg D.data.toList) : Digs D (vald D.data.toList) := by
  obtain ⟨h1, h2⟩ := vald_lt D.data.toList.length D.data.toList rfl h.2
  refine ⟨h1, fun k hk => ?_, fun k hk => ?_⟩
  · have h3 := (isDig_iff2 (D[k]'hk)).1 (h.2 _ (by
      show D.data[k] ∈ D.data.toList
      exact Array.getElem_mem_toList hk))
    omega
  · exact h2 k hk
end Go.Proofs.YtkhebidmfjbhaaaGreatDoor
namespace Go.Proofs.YtkhebidmfjbhaaaGreatDoor
open Go.RowKit

/-- The box of a number as written. -/
structure Wb (W : World) (k : Nat) (mn : Bool) (mk : Int) (fr bk : ByteArray) : Prop where
  c0 : W.cell? ⟨k, 0, none⟩ = some (.bool mn)
  c1 : W.cell? ⟨k, 1, none⟩ = some (.int .i32 mk)
  c2 : W.cell? ⟨k, 2, none⟩ = some (.string fr)
  c3 : W.cell? ⟨k, 3, none⟩ = some (.string bk)
  f0 : W.frozen? ⟨k, 0, none⟩ = false
  f1 : W.frozen? ⟨k, 1, none⟩ = false
  f2 : W.frozen? ⟨k, 2, none⟩ = false
  f3 : W.frozen? ⟨k, 3, none⟩ = false
theorem Wb.new (w : World) (mn : Bool) (mk : Int) (fr bk : ByteArray) (t : TypeId) (r : Nat) (hr : r = w.heap.size) : Wb (w.alloc (.cells #[.bool mn, .int .i32 mk, .string fr, .string bk] t)) r mn mk fr bk := by
  refine ⟨?_, ?_, ?_, ?_, ?_, ?_, ?_, ?_⟩ <;> first | (rw [World.frozen?_alloc_at _ _ _ _ hr]) | (rw [World.cell?_alloc_at _ _ _ _ hr]; rfl)
theorem Wb.kept {W W' : World} {k : Nat} {mn : Bool} {mk : Int} {fr bk : ByteArray} (h : Wb W k mn mk fr bk) (e : W'.heap[k]? = W.heap[k]?) : Wb W' k mn mk fr bk :=
  ⟨(World.cell?_of_block (a := ⟨k, 0, none⟩) e).trans h.c0, (World.cell?_of_block (a := ⟨k, 1, none⟩) e).trans h.c1, (World.cell?_of_block (a := ⟨k, 2, none⟩) e).trans h.c2, (World.cell?_of_block (a := ⟨k, 3, none⟩) e).trans h.c3, (World.frozen?_of_block (a := ⟨k, 0, none⟩) e).trans h.f0, (World.frozen?_of_block (a := ⟨k, 1, none⟩) e).trans h.f1, (World.frozen?_of_block (a := ⟨k, 2, none⟩) e).trans h.f2, (World.frozen?_of_block (a := ⟨k, 3, none⟩) e).trans h.f3⟩
/-- i bytes have been read. -/
structure Rs (s : ByteArray) (i : Nat) (mn : Bool) (mk : Int) (fr : ByteArray) (S : Nat) : Prop where
  le : i ≤ s.size
  st : mk = 0 ∧ fr = ⟨#[]⟩ ∧ S = (sgl mn).length ∧ (∃ D : List UInt8, (∀ c, c ∈ D → isDig c = true) ∧ s.data.toList.take i = sgl mn ++ D) ∨
    (mk = 46 ∨ mk = 47) ∧ ∃ E : List UInt8, (∀ c, c ∈ E → isDig c = true) ∧ (∀ c, c ∈ fr.data.toList → isDig c = true) ∧ s.data.toList.take i = sgl mn ++ (fr.data.toList ++ UInt8.ofNat mk.toNat :: E) ∧ S + E.length = i
theorem Rs.start (s : ByteArray) : Rs s 0 false 0 ⟨#[]⟩ 0 := ⟨by omega, .inl ⟨rfl, rfl, rfl, [], by simp, by simp [sgl]⟩⟩
theorem Rs.S_le {s : ByteArray} {i : Nat} {mn : Bool} {mk : Int} {fr : ByteArray} {S : Nat} (h : Rs s i mn mk fr S) : S ≤ i := by
  have hl : (s.data.toList.take i).length = i := by rw [List.length_take]; exact Nat.min_eq_left h.le
  rcases h.st with ⟨-, -, rfl, D, -, e⟩ | ⟨-, E, -, -, -, e⟩
  · rw [e, List.length_append] at hl; omega
  · omega
theorem take_snoc {α : Type} (l : List α) (i : Nat) (h : i < l.length) : l.take (i + 1) = l.take i ++ [l[i]] := by
  rw [List.take_add_one, List.getElem?_eq_getElem h]; rfl
theorem byte_at (s : ByteArray) (i : Nat) (h : i < s.size) : s.data.toList.take (i + 1) = s.data.toList.take i ++ [s[i]'h] := take_snoc s.data.toList i h
theorem extract_list (s : ByteArray) (a b : Nat) : (s.extract a b).data.toList = (s.data.toList.take b).drop a := by
  rw [ByteArray.data_extract, Array.toList_extract, List.extract_eq_take_drop, List.drop_take]
theorem Rs.zero {s : ByteArray} {mn : Bool} {mk : Int} {fr : ByteArray} {S : Nat} (h : Rs s 0 mn mk fr S) : mn = false ∧ mk = 0 ∧ fr = ⟨#[]⟩ ∧ S = 0 := by
  rcases h.st with ⟨h1, h2, h3, D, -, e⟩ | ⟨-, E, -, -, e, -⟩
  · cases mn with
    | false => exact ⟨rfl, h1, h2, h3⟩
    | true => rw [List.take_zero] at e; cases e
  · rw [List.take_zero] at e
    have := congrArg List.length e
    simp at this
theorem Rs.minus {s : ByteArray} (h0 : 0 < s.size) (h : s[0]'h0 = 45) : Rs s 1 true 0 ⟨#[]⟩ 1 :=
  ⟨by omega, .inl ⟨rfl, rfl, rfl, [], by simp, by rw [byte_at s 0 h0, h]; rfl⟩⟩
theorem Rs.dig {s : ByteArray} {i : Nat} {mn : Bool} {mk : Int} {fr : ByteArray} {S : Nat} (h : Rs s i mn mk fr S) (hi : i < s.size) (hc : isDig (s[i]'hi) = true) : Rs s (i + 1) mn mk fr S := by
  refine ⟨by omega, ?_⟩
  rcases h.st with ⟨h1, h2, h3, D, hd, e⟩ | ⟨h1, E, hE, hf, e, hS⟩
  · refine .inl ⟨h1, h2, h3, D ++ [s[i]'hi], ?_, by rw [byte_at s i hi, e, List.append_assoc]⟩
    intro c hc2
    rcases List.mem_append.1 hc2 with k | k
    · exact hd c k
    · rw [List.mem_singleton.1 k]; exact hc
  · refine .inr ⟨h1, E ++ [s[i]'hi], ?_, hf, by rw [byte_at s i hi, e]; simp, by simp; omega⟩
    intro c hc2
    rcases List.mem_append.1 hc2 with k | k
    · exact hE c k
    · rw [List.mem_singleton.1 k]; exact hc
theorem Rs.front {s : ByteArray} {i : Nat} {mn : Bool} {fr : ByteArray} {S : Nat} (h : Rs s i mn 0 fr S) : ∃ D : List UInt8, (s.extract S i).data.toList = D ∧ (∀ c, c ∈ D → isDig c = true) ∧ s.data.toList.take i = sgl mn ++ D := by
  rcases h.st with ⟨-, -, h3, D, hd, e⟩ | ⟨h1, -⟩
  · refine ⟨D, ?_, hd, e⟩
    rw [extract_list, e, h3, List.drop_left]
  · omega
theorem Rs.mark {s : ByteArray} {i : Nat} {mn : Bool} {fr : ByteArray} {S : Nat} {mk : Int} (h : Rs s i mn 0 fr S) (hi : i < s.size) (hm : mk = 46 ∨ mk = 47) (hc : s[i]'hi = UInt8.ofNat mk.toNat) : Rs s (i + 1) mn mk (s.extract S i) (i + 1) := by
  obtain ⟨D, e1, hd, e2⟩ := h.front
  refine ⟨by omega, .inr ⟨hm, [], by simp, by rw [e1]; exact hd, ?_, by simp⟩⟩
  rw [byte_at s i hi, e2, e1, hc]
  simp
theorem whole_list (s : ByteArray) : s.data.toList.take s.size = s.data.toList := List.take_length
theorem split_at (s : ByteArray) (i : Nat) (h : i < s.size) : s.data.toList = s.data.toList.take i ++ (s[i]'h) :: s.data.toList.drop (i + 1) := by
  conv => lhs; rw [← List.take_append_drop i s.data.toList, List.drop_eq_getElem_cons (show i < s.data.toList.length from h)]
  rfl
/-- The signs agree where digits stand behind one of them. -/
theorem sgl_inj {mn mn' : Bool} {X l r : List UInt8} (hl : Dg l) (hX : mn = false → ∀ u, X ≠ 45 :: u) (e : sgl mn ++ X = sgl mn' ++ (l ++ r)) : X = l ++ r := by
  cases mn <;> cases mn'
  · exact e
  · exact absurd e (hX rfl _)
  · exact absurd e.symm (sg_head hl _ _)
  · injection e
theorem Rs.bad {s : ByteArray} {i : Nat} {mn : Bool} {mk : Int} {fr : ByteArray} {S : Nat} (h : Rs s i mn mk fr S) (hi : i < s.size) (hc : isDig (s[i]'hi) = false) (h1 : ¬ (i = 0 ∧ s[i]'hi = 45)) (h2 : mk = 0 → s[i]'hi ≠ 46 ∧ s[i]'hi ≠ 47) : ∀ (mn' : Bool) (mk' : Int) (fr' bk' : ByteArray), ¬ Wr s mn' mk' fr' bk' := by
  intro mn' mk' fr' bk' hw
  have e0 := hw.form
  rw [split_at s i hi] at e0
  generalize s.data.toList.drop (i + 1) = r at e0
  rcases h.st with ⟨m0, f0, -, D, hd, e⟩ | ⟨m1, E, hE, hf, e, -⟩
  · rw [e, List.append_assoc] at e0
    have hX : mn = false → ∀ u, D ++ (s[i]'hi) :: r ≠ 45 :: u := by
      intro hmn u hu
      cases D with
      | nil =>
        injection hu with hu _
        have hl : (s.data.toList.take i).length = i := by rw [List.length_take]; exact Nat.min_eq_left h.le
        rw [e, hmn] at hl
        exact h1 ⟨by simp [sgl] at hl; omega, hu⟩
      | cons d D =>
        injection hu with hu _
        have := hd d List.mem_cons_self
        rw [hu] at this
        exact absurd this (by decide)
    have e2 := sgl_inj hw.fd hX e0
    obtain ⟨g1, g2⟩ := dig_split _ _ _ _ _ hd hw.fd.2 hc e2
    rcases hw.mark with ⟨rfl, rfl⟩ | ⟨m2, d2⟩
    · exact g1 (by unfold tlm; rw [if_pos rfl])
    · obtain ⟨t1, t2⟩ := tl_mark (bk := bk') m2
      obtain ⟨-, g3, -⟩ := g2 _ _ t1 t2
      rcases m2 with rfl | rfl
      · exact (h2 m0).1 g3
      · exact (h2 m0).2 g3
  · rw [e, List.append_assoc] at e0
    have hmd : isDig (UInt8.ofNat mk.toNat) = false := (tl_mark (bk := fr) m1).2
    have e0' : sgl mn ++ (fr.data.toList ++ UInt8.ofNat mk.toNat :: (E ++ (s[i]'hi) :: r)) = sgl mn' ++ (fr'.data.toList ++ tlm mk' bk') := by
      rw [← e0]; simp
    have hX : mn = false → ∀ u, fr.data.toList ++ UInt8.ofNat mk.toNat :: (E ++ (s[i]'hi) :: r) ≠ 45 :: u := by
      intro _ u hu
      cases hfl : fr.data.toList with
      | nil =>
        rw [hfl] at hu
        injection hu with hu _
        rcases m1 with rfl | rfl
        · exact absurd hu (by decide)
        · exact absurd hu (by decide)
      | cons d D =>
        rw [hfl] at hu hf
        injection hu with hu _
        have := hf d List.mem_cons_self
        rw [hu] at this
        exact absurd this (by decide)
    have e2 := sgl_inj hw.fd hX e0'
    obtain ⟨g1, g2⟩ := dig_split _ _ _ _ _ hf hw.fd.2 hmd e2
    rcases hw.mark with ⟨rfl, rfl⟩ | ⟨m2, d2⟩
    · exact g1 (by unfold tlm; rw [if_pos rfl])
    · obtain ⟨t1, t2⟩ := tl_mark (bk := bk') m2
      obtain ⟨-, -, g3⟩ := g2 _ _ t1 t2
      have := d2.2 (s[i]'hi) (by rw [← g3]; simp)
      rw [hc] at this
      cases this
theorem ba_nil {s : ByteArray} : s.data.toList = [] ↔ s = ⟨#[]⟩ := ⟨fun h => ba_ext h, fun h => by rw [h]⟩
theorem Rs.fin0 {s : ByteArray} {mn : Bool} {fr : ByteArray} {S : Nat} (h : Rs s s.size mn 0 fr S) : (s.extract S s.size ≠ ⟨#[]⟩ → Wr s mn 0 (s.extract S s.size) ⟨#[]⟩) ∧ (s.extract S s.size = ⟨#[]⟩ → ∀ (mn' : Bool) (mk' : Int) (fr' bk' : ByteArray), ¬ Wr s mn' mk' fr' bk') := by
  obtain ⟨D, e1, hd, e2⟩ := h.front
  rw [whole_list] at e2
  refine ⟨fun hne => ⟨by rw [e2, e1]; simp [tlm], ⟨fun h0 => hne (ba_nil.1 h0), by rw [e1]; exact hd⟩, .inl ⟨rfl, rfl⟩⟩, fun he mn' mk' fr' bk' hw => ?_⟩
  rw [he] at e1
  have e3 : D = [] := by rw [← e1]
  rw [e3, List.append_nil] at e2
  have e4 := hw.form
  rw [e2] at e4
  have hfd := hw.fd
  have e5 := sgl_inj (X := []) (mn := mn) hfd (fun _ u hu => by cases hu) (by rw [List.append_nil]; exact e4)
  exact hfd.1 (List.append_eq_nil_iff.1 e5.symm).1
theorem Rs.fin1 {s : ByteArray} {mn : Bool} {fr : ByteArray} {S : Nat} {mk : Int} (h : Rs s s.size mn mk fr S) (hm : mk ≠ 0) : (fr ≠ ⟨#[]⟩ → s.extract S s.size ≠ ⟨#[]⟩ → Wr s mn mk fr (s.extract S s.size)) ∧ ((fr = ⟨#[]⟩ ∨ s.extract S s.size = ⟨#[]⟩) → ∀ (mn' : Bool) (mk' : Int) (fr' bk' : ByteArray), ¬ Wr s mn' mk' fr' bk') := by
  rcases h.st with ⟨h1, -⟩ | ⟨m1, E, hE, hf, e, hS⟩
  · exact absurd h1 hm
  · rw [whole_list] at e
    have hmd : isDig (UInt8.ofNat mk.toNat) = false := (tl_mark (bk := fr) m1).2
    have e1 : (s.extract S s.size).data.toList = E := by
      rw [extract_list, whole_list, e]
      have hl := congrArg List.length e
      simp only [List.length_append, List.length_cons] at hl
      have hl2 : s.data.toList.length = s.size := rfl
      rw [show sgl mn ++ (fr.data.toList ++ UInt8.ofNat mk.toNat :: E) = (sgl mn ++ (fr.data.toList ++ [UInt8.ofNat mk.toNat])) ++ E by simp]
      rw [show S = (sgl mn ++ (fr.data.toList ++ [UInt8.ofNat mk.toNat])).length by simp only [List.length_append, List.length_cons, List.length_nil]; omega, List.drop_left]
    refine ⟨fun n1 n2 => ⟨?_, ⟨fun h0 => n1 (ba_nil.1 h0), hf⟩, .inr ⟨m1, fun h0 => n2 (ba_nil.1 h0), by rw [e1]; exact hE⟩⟩, fun he mn' mk' fr' bk' hw => ?_⟩
    · rw [(tl_mark m1).1, e1]; exact e
    · have e0 := hw.form
      rw [e] at e0
      have hX : mn = false → ∀ u, fr.data.toList ++ UInt8.ofNat mk.toNat :: E ≠ 45 :: u := by
        intro _ u hu
        cases hfl : fr.data.toList with
        | nil =>
          rw [hfl] at hu
          injection hu with hu _
          rcases m1 with rfl | rfl
          · exact absurd hu (by decide)
          · exact absurd hu (by decide)
        | cons d D =>
          rw [hfl] at hu hf
          injection hu with hu _
          have := hf d List.mem_cons_self
          rw [hu] at this
          exact absurd this (by decide)
      have e2 := sgl_inj hw.fd hX e0
      obtain ⟨g1, g2⟩ := dig_split _ _ _ _ _ hf hw.fd.2 hmd e2
      rcases hw.mark with ⟨rfl, rfl⟩ | ⟨m2, d2⟩
      · exact g1 (by unfold tlm; rw [if_pos rfl])
      · obtain ⟨t1, t2⟩ := tl_mark (bk := bk') m2
        obtain ⟨g3, -, g4⟩ := g2 _ _ t1 t2
        rcases he with he | he
        · rw [he] at g3
          exact hw.fd.1 g3.symm
        · rw [← e1, he] at g4
          exact d2.1 g4.symm
end Go.Proofs.YtkhebidmfjbhaaaGreatDoor
