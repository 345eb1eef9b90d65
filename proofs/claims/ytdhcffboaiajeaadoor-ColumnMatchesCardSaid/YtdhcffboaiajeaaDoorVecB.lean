/-
  A vector of 1024 integers in a block of its own, and what its method add does.
-/
import Derived.Test.YtdhcffboaiajeaaDoorChk
import Derived.StillTailTactics
import Derived.Maps.AppendAt
import Derived.OwnWalk
namespace Go.Proofs.YtdhcffboaiajeaaDoor
open Go.RowKit M

/-- Block k is the vector f. -/
structure VecB (w : World) (k : Nat) (f : Int → Int) : Prop where
  lt : k < w.heap.size
  cell : ∀ i : Nat, i < 1024 → w.cell? ⟨k, i, none⟩ = some (.int .i64 (f i))
  free : ∀ i : Nat, w.frozen? ⟨k, i, none⟩ = false
theorem VecB.by {w w' : World} {k : Nat} {f : Int → Int} (h : VecB w k f) (hz : w.heap.size ≤ w'.heap.size) (hk : w'.heap[k]? = w.heap[k]?) : VecB w' k f :=
  ⟨Nat.lt_of_lt_of_le h.lt hz, fun i hi => (World.cell?_of_block (a := ⟨k, i, none⟩) hk).trans (h.cell i hi), fun i => (World.frozen?_of_block (a := ⟨k, i, none⟩) hk).trans (h.free i)⟩
theorem VecB.below {w w' : World} {k : Nat} {f : Int → Int} (h : VecB w k f) (hb : Below w.heap.size w w') : VecB w' k f := h.by hb.size (hb.block k h.lt)
theorem VecB.grown {w w' : World} {k : Nat} {f : Int → Int} {row : Option Nat} (h : VecB w k f) (hg : w.grownBy w' row) (hne : row ≠ some k) : VecB w' k f := h.by hg.size (hg.block k h.lt (fun e => hne e.symm))
theorem VecB.drew {w : World} {k : Nat} {f : Int → Int} (h : VecB w k f) : VecB w.drew k f := ⟨h.lt, h.cell, h.free⟩
theorem VecB.congr {w : World} {k : Nat} {f g : Int → Int} (h : VecB w k f) (e : ∀ i : Nat, i < 1024 → f i = g i) : VecB w k g := ⟨h.lt, fun i hi => by rw [h.cell i hi, e i hi], h.free⟩
theorem zero_at : ∀ i : Nat, i < 1024 → Tryd.zeroCells103[i]? = some (.int .i64 0) := by
  have e : Tryd.zeroCells103 = Array.replicate 1024 (.int .i64 0) := by kernel_rfl
  intro i hi
  rw [e, Array.getElem?_replicate, if_pos hi]
theorem VecB.new (w : World) (t : TypeId) : VecB (w.alloc (.cells Tryd.zeroCells103 t)) w.heap.size (fun _ => 0) :=
  ⟨by simp, fun i hi => by rw [World.cell?_alloc_at _ _ _ _ rfl]; exact zero_at i hi, fun i => World.frozen?_alloc_new _ _ _ _⟩
theorem grown_drew {a w : World} {row : Option Nat} (h : a.grownBy w row) : a.grownBy w.drew row := ⟨h.os, h.tape, h.output, h.size, h.block⟩
theorem grown_alloc {a w : World} {row : Option Nat} (h : a.grownBy w row) (o : Obj) : a.grownBy (w.alloc o) row := h.trans (World.grownBy_alloc w o row)
theorem grown_set {a w : World} {k : Nat} (h : a.grownBy w (some k)) (o : Nat) (u : Value) : a.grownBy (w.setCell ⟨k, o, none⟩ u) (some k) :=
  h.trans ⟨rfl, rfl, rfl, by simp [World.setCell], fun j _ hne => Below.heap_setCell _ _ _ _ (fun e => hne (by rw [e]))⟩
theorem VecB.set {w : World} {k : Nat} {f : Int → Int} (h : VecB w k f) {r : Nat} (hr : r < 1024) (x : Int) : VecB (w.setCell ⟨k, r, none⟩ (.int .i64 x)) k (fun i => if i = r then x else f i) := by
  refine ⟨by simp [World.setCell]; exact h.lt, fun i hi => ?_, fun i => by rw [World.frozen?_setCell]; exact h.free i⟩
  by_cases e : i = r
  · subst e
    rw [if_pos rfl]
    exact World.cell?_setCell_same' _ _ _ (by rw [h.cell i hi]; rfl)
  · rw [if_neg (by omega), World.cell?_setCell_other w _ _ _ (by intro c; injection c with _ c; omega)]
    exact h.cell i hi
theorem co_take {p l : Int} : ∀ {c : List Tm} (_ : Cl p l c) {k : Nat} (hk : k < c.length), co (c.take k) (c[k]).1 = 0
  | t :: c, _, 0, _ => rfl
  | t :: c, ⟨a1, a2, a3, a4, a5, a6⟩, k + 1, hk => by
    have hk' : k < c.length := by simpa using hk
    have ih := co_take a6 hk'
    have h2 : t.1 < (c[k]).1 := by
      have : ∀ {c : List Tm} {l : Int}, Cl p l c → ∀ {k : Nat} (hk : k < c.length), l < (c[k]).1 := by
        intro c
        induction c with
        | nil => intro l _ k hk; simp at hk
        | cons s c ih =>
          intro l h k hk
          obtain ⟨b1, b2, b3, b4, b5, b6⟩ := h
          match k, hk with
          | 0, _ => exact b5
          | k + 1, hk =>
            have := ih b6 (k := k) (by simpa using hk)
            simp only [List.getElem_cons_succ]
            omega
      exact this a6 hk'
    simp only [List.getElem_cons_succ, List.take_succ_cons, co]
    rw [if_neg (by omega)]
    exact ih
theorem co_snoc : ∀ (c : List Tm) (t : Tm) (i : Int), co (c ++ [t]) i = if ∃ s, s ∈ c ∧ s.1 = i then co c i else if t.1 = i then t.2 else 0
  | [], t, i => by
    rw [if_neg (by simp)]
    rfl
  | s :: c, t, i => by
    have ih := co_snoc c t i
    simp only [List.cons_append, co, ih]
    by_cases h : s.1 = i
    · rw [if_pos h, if_pos h, if_pos ⟨s, by simp, h⟩]
    · rw [if_neg h, if_neg h]
      by_cases g : ∃ s, s ∈ c ∧ s.1 = i
      · obtain ⟨u, h1, h2⟩ := g
        rw [if_pos ⟨u, h1, h2⟩, if_pos ⟨u, by simp [h1], h2⟩]
      · have g2 : ¬ ∃ u, u ∈ s :: c ∧ u.1 = i := fun ⟨u, h1, h2⟩ => (List.mem_cons.1 h1).elim (fun e => h (by rw [← e]; exact h2)) (fun e => g ⟨u, e, h2⟩)
        rw [if_neg g, if_neg g2]
theorem co_none : ∀ (c : List Tm) (i : Int), (¬ ∃ s, s ∈ c ∧ s.1 = i) → co c i = 0
  | [], _, _ => rfl
  | s :: c, i, h => by
    unfold co
    rw [if_neg (fun e => h ⟨s, by simp, e⟩)]
    exact co_none c i fun ⟨u, h1, h2⟩ => h ⟨u, by simp [h1], h2⟩
theorem mem_row {p l : Int} : ∀ {c : List Tm} (_ : Cl p l c) {s : Tm}, s ∈ c → 0 ≤ s.1 ∧ s.1 < 1024 ∧ 1 ≤ s.2 ∧ s.2 < p
  | t :: c, ⟨a1, a2, a3, a4, a5, a6⟩, s, h => by
    rcases List.mem_cons.1 h with rfl | h
    · exact ⟨a1, a2, a3, a4⟩
    · exact mem_row a6 h
theorem co_mem {p l : Int} : ∀ {c : List Tm} (_ : Cl p l c) {s : Tm}, s ∈ c → co c s.1 = s.2
  | t :: c, ⟨a1, a2, a3, a4, a5, a6⟩, s, h => by
    unfold co
    rcases List.mem_cons.1 h with rfl | h
    · rw [if_pos rfl]
    · have h2 := co_mem a6 h
      by_cases e : t.1 = s.1
      · rw [if_pos e]
        have h3 := co_below a6 (i := s.1) (by omega)
        have h4 := mem_row a6 h
        omega
      · rw [if_neg e]; exact h2
/-- One term more of a column. -/
theorem co_take_succ {p l : Int} {c : List Tm} (h : Cl p l c) {k : Nat} (hk : k < c.length) (i : Int) : co (c.take (k + 1)) i = if i = (c[k]).1 then (c[k]).2 else co (c.take k) i := by
  have e : c.take (k + 1) = c.take k ++ [c[k]] := by rw [List.take_append_getElem]
  rw [e, co_snoc]
  by_cases g : ∃ s, s ∈ c.take k ∧ s.1 = i
  · rw [if_pos g]
    by_cases f : i = (c[k]).1
    · obtain ⟨s, h1, h2⟩ := g
      exfalso
      have h3 := co_take h hk
      rw [← f, ← h2] at h3
      have h5 : ∀ (d : List Tm), (∀ u, u ∈ d → 1 ≤ u.2) → s ∈ d → co d s.1 ≠ 0 := by
        intro d
        induction d with
        | nil => intro _ hs; cases hs
        | cons u d ih =>
          intro hd hs
          unfold co
          by_cases e : u.1 = s.1
          · rw [if_pos e]; have := hd u (by simp); omega
          · rw [if_neg e]
            rcases List.mem_cons.1 hs with e2 | e2
            · exact absurd (by rw [e2]) e
            · exact ih (fun v hv => hd v (by simp [hv])) e2
      exact h5 _ (fun u hu => (mem_row h (List.mem_of_mem_take hu)).2.2.1) h1 h3
    · rw [if_neg f]
  · rw [if_neg g]
    by_cases f : i = (c[k]).1
    · rw [if_pos f, if_pos f.symm]
    · rw [if_neg f, if_neg (fun e => f e.symm), co_none _ _ g]
set_option maxHeartbeats 1000000 in
set_option maxRecDepth 100000 in
theorem add_any (p k : Int) (kb : Nat) (f : Int → Int) (M : Int) (v : Value) (c : List Tm) (w : World) (hV : VecB w kb f) (hT : TermsV w v c) (hc : Col p c) (hp : p ≤ 251) (hk0 : 0 ≤ k) (hk1 : k ≤ 251) (hf : ∀ i, 0 ≤ f i ∧ f i ≤ M) (hM : M ≤ 1000000000000) (hne : c ≠ [] → ∀ g, v.ownBlock = some g → g ≠ kb) :
    Calls Tryd.prog 80 #[.pointer (some ⟨kb, 0, none⟩), .int .i64 k, v] w fun e w' => e = .returned (.tuple #[]) ∧ VecB w' kb (fun i => f i + k * co c i) ∧ w.grownBy w' (some kb) := by
  obtain ⟨a, n, rfl, h1, h2, h3⟩ := hT
  unfold maxLen at h2
  go_enter Tryd.func80, Tryd.ntmps80
  go_wp2
  go_loopw [10] (fun i wr => ∃ m : Nat, m ≤ c.length ∧ i = .int .i64 m ∧ VecB wr kb (fun i => f i + k * co (c.take m) i) ∧ w.grownBy wr (some kb)) (fun i _ => c.length - (intOf i).toNat)
  case atStart => exact ⟨0, Nat.zero_le _, rfl, hV.congr (fun i _ => by show f i = f i + k * 0; omega), World.grownBy.refl _ _⟩
  case round =>
    obtain ⟨m, hm, rfl, hW, hG⟩ := hrel
    by_cases hlt : m < c.length
    · obtain ⟨g, o, rfl, hg, hcl⟩ := h3 (by omega)
      obtain ⟨c0, c1⟩ := hcl m hlt
      have hgk : g ≠ kb := hne (fun e => by rw [e] at hlt; simp at hlt) g rfl
      obtain ⟨r1, r2, r3, r4⟩ := mem_row hc (List.getElem_mem hlt)
      have hts := co_take_succ hc hlt
      have ht0 := co_take hc hlt
      obtain ⟨t, ht⟩ : ∃ t, t = c[m] := ⟨_, rfl⟩
      rw [← ht] at c0 c1 r1 r2 r3 r4 ht0
      have hts' : ∀ i, co (c.take (m + 1)) i = if i = t.1 then t.2 else co (c.take m) i := by rw [ht]; exact hts
      clear hts ht
      obtain ⟨⟨row, x⟩, rfl⟩ : ∃ u, t = u := ⟨t, rfl⟩
      obtain ⟨r, rfl⟩ := Int.eq_ofNat_of_zero_le r1
      replace c0 := hG.cell c0 (by intro e; injection e with e; exact hgk e)
      replace c1 := hG.cell c1 (by intro e; injection e with e; exact hgk e)
      dsimp only at c0 c1 r1 r2 r3 r4 ht0 hts'
      have hcell := hW.cell r (by omega)
      rw [ht0] at hcell
      have hkx0 : 0 ≤ k * x := Int.mul_nonneg hk0 (by omega)
      have hkx1 : k * x ≤ 251 * 251 := Int.mul_le_mul hk1 (by omega) (by omega) (by omega)
      obtain ⟨y, hy⟩ : ∃ y, y = f r + k * 0 := ⟨_, rfl⟩
      have hy2 := hf r
      rw [← hy] at hcell
      have y0 : 0 ≤ y := by omega
      have y1 : y ≤ 1000000000000 := by omega
      have hVlt := hW.lt
      have hfr := hW.free r
      have HW := Lib.hid hW
      have HG := Lib.hid hG
      have HTS := Lib.hid hts'
      have HY := Lib.hid hy
      clear hcl h3 hW hG hts' hy hy2 ht0 hf
      go_wp2
      obtain ⟨W1, hW1⟩ : ∃ W1, W1 = wr.alloc (.cells #[.int .i64 (r : Int), .int .i64 x] 37) := ⟨_, rfl⟩
      rw [← hW1]
      have B1 : Below wr.heap.size wr W1 := by rw [hW1]; exact (Below.refl _ wr).alloc (Nat.le_refl _) _
      have e0 : W1.cell? ⟨wr.heap.size, 0, none⟩ = some (.int .i64 r) := by rw [hW1, World.cell?_alloc_at _ _ _ _ rfl]; rfl
      have e1 : W1.cell? ⟨wr.heap.size, 1, none⟩ = some (.int .i64 x) := by rw [hW1, World.cell?_alloc_at _ _ _ _ rfl]; rfl
      have hcell2 : W1.cell? ⟨kb, r, none⟩ = some (.int .i64 y) := (B1.cell (p := ⟨kb, r, none⟩) hVlt).trans hcell
      have hfr2 : W1.frozen? ⟨kb, r, none⟩ = false := (B1.frozen (p := ⟨kb, r, none⟩) hVlt).trans hfr
      have HB1 := Lib.hid B1
      have HG1 : Hid (w.grownBy W1 (some kb)) := by rw [hW1]; exact grown_alloc HG.out _
      clear hW1 B1 hcell hfr c0 c1
      go_still_tail 13, (by kernel_rfl)
      change wpList _ _ _ _ _ W1.drew
      go_wp2
      refine ⟨⟨m + 1, by omega, by go_num, ?_, grown_drew (grown_set HG1.out _ _)⟩, by simp [intOf]; omega⟩
      have hs := ((HW.out.below HB1.out).set (r := r) (by omega) (y + k * x)).drew
      refine hs.congr fun i hi => ?_
      rw [HTS.out]
      by_cases e : (i : Int) = r
      · rw [if_pos e, if_pos e, HY.out, e]
        omega
      · rw [if_neg e, if_neg e]
    · have hml : m = c.length := by omega
      have HW := Lib.hid hW
      have HG := Lib.hid hG
      clear h3 hW hG
      go_wp2
      go_end0
      refine ⟨rfl, ?_, HG.out⟩
      have := HW.out
      rw [hml, List.take_length] at this
      exact this
end Go.Proofs.YtdhcffboaiajeaaDoor
